/- FillTwo of the program. -/
import Derived.Test.YtajlbfbpkafjfaaFlW
import Derived.Test.YtajlbfbpkafjfaaPrL
namespace Go.Proofs.Ytajlbfbpkafjfaa
open Go.RowKit

def wA (xs : List ByteArray) (x : Int) : ByteArray := xs.getD x.toNat ⟨#[]⟩
theorem wA_at {xs : List ByteArray} {k : Nat} {x : ByteArray} (h : xs[k]? = some x) : wA xs ((k : Nat) : Int) = x := by simp [wA, List.getD, h]
/-- These two words fit. -/
noncomputable def f2P (F : Fc) (l r : ByteArray) (xs : List ByteArray) (x y : Int) (p : Pr) : Bool := filB F (l ++ (wA xs p.1 ++ ⟨#[32]⟩ ++ wA xs p.2) ++ r).data.toList x y
theorem f2P_at {F : Fc} {l r : ByteArray} {xs : List ByteArray} {x y : Int} {i j : Nat} {a b : ByteArray} (h : xs[i]? = some a) (h' : xs[j]? = some b) : f2P F l r xs x y ((i : Int), (j : Int)) = filB F (l ++ (a ++ ⟨#[32]⟩ ++ b) ++ r).data.toList x y := by
  unfold f2P; rw [wA_at h, wA_at h']
noncomputable def f2R (F : Fc) (l r : ByteArray) (xs : List ByteArray) (x y : Int) : List Pr := if flC F l.data.toList r.data.toList xs x y = 0 then (prsL xs.length).filter (f2P F l r xs x y) else []
theorem f2_no {F : Fc} {l r : ByteArray} {xs : List ByteArray} {x y : Int} (h : flC F l.data.toList r.data.toList xs x y ≠ 0) : f2R F l r xs x y = [] := by unfold f2R; rw [if_neg h]
theorem f2_ok {F : Fc} {l r : ByteArray} {xs : List ByteArray} {x y : Int} (h : flC F l.data.toList r.data.toList xs x y = 0) : f2R F l r xs x y = (prsL xs.length).filter (f2P F l r xs x y) := by unfold f2R; rw [if_pos h]
theorem f2R_len (F : Fc) (l r : ByteArray) (xs : List ByteArray) (x y : Int) : (f2R F l r xs x y).length ≤ 1048577 := by
  unfold f2R
  split
  · rename_i h
    have := filter_prs_len xs.length (f2P F l r xs x y) (vlist_true.1 (fl_zero h).2.1).1
    omega
  · simp

set_option maxRecDepth 100000 in
set_option maxHeartbeats 4000000 in
theorem fillT1_any (F : Fc) (hF : F.ok) (A : Option Addr) (c : Nat) (P Q : Nat) (l r m1 m2 : ByteArray) (x y : Int) (b o n ct i j : Nat) (w : World) (hl : l.size ≤ 1048576) (hr : r.size ≤ 1048576) (hm1 : m1.size ≤ 20) (hm2 : m2.size ≤ 20) (hv : vface F = true) (hx : inB x 0 4000 = true) (hi : i < n) (hj : j < n)
    (hP : w.rangeAt P 0 (blc F (.slice A F.ps.length c) l r x y)) (hPl : P < w.heap.size) (hQ : w.cell? ⟨Q, 0, none⟩ = some (.slice (some ⟨b, o, none⟩) n ct)) (hc1 : w.cell? ⟨b, o + i, none⟩ = some (.string m1)) (hc2 : w.cell? ⟨b, o + j, none⟩ = some (.string m2)) (hA : PairsAt w w.heap.size A F.ps) :
    Calls Try.prog 91 (#[.agg #[.int .i64 (i : Int), .int .i64 (j : Int)]] ++ #[.pointer (some ⟨P, 0, none⟩), .pointer (some ⟨Q, 0, none⟩)]) w fun e w' => e = .returned (.bool (filB F (l ++ (m1 ++ ⟨#[32]⟩ ++ m2) ++ r).data.toList x y)) ∧ Below w.heap.size w w' := by
  have hii : (i : Int) < n := by omega
  have hi0 : (0 : Int) ≤ i := by omega
  have hji : (j : Int) < n := by omega
  have hj0 : (0 : Int) ≤ j := by omega
  have hb0 : Below w.heap.size w (w.alloc (.cells #[.int .i64 (i : Int), .int .i64 (j : Int)] 108)) := (Below.refl _ _).alloc (Nat.le_refl _) _
  have e0 := rangeAt_new' w #[.int .i64 (i : Int), .int .i64 (j : Int)] 108
  have k0 : ∀ (b o : Nat) v, w.cell? ⟨b, o, none⟩ = some v → (w.alloc (.cells #[.int .i64 (i : Int), .int .i64 (j : Int)] 108)).cell? ⟨b, o, none⟩ = some v := fun b o v h => (hb0.cell (p := ⟨b, o, none⟩) (World.block_lt_of_cell? w _ h)).trans h
  have d0 := Over.get (show (w.alloc (.cells #[.int .i64 (i : Int), .int .i64 (j : Int)] 108)).cell? ⟨w.heap.size, 0, none⟩ = some (.int .i64 (i : Int)) from e0 0 _ rfl)
  have d1 := Over.get (show (w.alloc (.cells #[.int .i64 (i : Int), .int .i64 (j : Int)] 108)).cell? ⟨w.heap.size, 1, none⟩ = some (.int .i64 (j : Int)) from e0 1 _ rfl)
  have cQ := Over.get (k0 _ _ _ hQ)
  have cc1 := Over.get (k0 _ _ _ hc1)
  have cc2 := Over.get (k0 _ _ _ hc2)
  have hs1 : (m1 ++ (⟨#[32]⟩ : ByteArray)).size ≤ maxLen := by rw [append_size]; show m1.size + 1 ≤ maxLen; unfold maxLen; omega
  have hs2' : (m1 ++ (⟨#[32]⟩ : ByteArray) ++ m2).size ≤ 41 := by rw [append_size, append_size]; show m1.size + 1 + m2.size ≤ 41; omega
  have hs2 : (m1 ++ (⟨#[32]⟩ : ByteArray) ++ m2).size ≤ maxLen := by unfold maxLen; omega
  have HI33 := hide (show (Try.prog.info? 93).map (·.size) = some (blc F (.slice A F.ps.length c) l r x y).length from by rw [blc_len hF.len]; kernel_rfl)
  have HFI := hide (fun W (hW : Below (w.alloc (.cells #[.int .i64 (i : Int), .int .i64 (j : Int)] 108)).heap.size (w.alloc (.cells #[.int .i64 (i : Int), .int .i64 (j : Int)] 108)) W) => fits_any F hF A c l r (m1 ++ ⟨#[32]⟩ ++ m2) x y W hl hr (by omega) hv hx (((hA.below hb0).mono hb0.size).go hW (Nat.le_refl _)))
  have hP' := rangeAt_below hP hb0 hPl
  have HRO := hide (fun w' (h : ∃ s : Over (w.alloc (.cells #[.int .i64 (i : Int), .int .i64 (j : Int)] 108)), w' = s.w) => over_row hP' (Nat.lt_of_lt_of_le hPl hb0.size) w' h)
  generalize filB F (l ++ (m1 ++ ⟨#[32]⟩ ++ m2) ++ r).data.toList x y = R at *
  generalize hcs : blc F (.slice A F.ps.length c) l r x y = cs at *
  unfold maxLen at hs1 hs2
  clear hP hP' hQ hc1 hc2 hA k0 e0
  go_enter Try.func91, Try.ntmps91
  go_wp2
  generalize (w.alloc (.cells #[.int .i64 (i : Int), .int .i64 (j : Int)] 108)) = W0 at *
  refine wp_region_over (by kernel_rfl) (by kernel_rfl) ?_
  repeat (first | (refine wpQuiet_load_row rfl 93 (.tmp 1) rfl _ 0 rfl _ _ HRO.out Try.underlying93 rfl HI33.out ?_; simp only [Act.put, List.setIfInBounds_toArray, List.set_cons_zero, List.set_cons_succ]) | go_big_quiet_step ((go_at_call 82; exact over_call (HFI.out _ (Over.h _)))))
  refine wpQuiet_nil ?_
  intro w1 hb1
  go_wp2
  go_ret
  exact ⟨rfl, hb0.trans (hb1.mono hb0.size)⟩

set_option maxRecDepth 100000 in
set_option maxHeartbeats 8000000 in
theorem implFillTwo_any (F : Fc) (hF : F.ok) (A : Option Addr) (c : Nat) (l : ByteArray) (hl : l.size ≤ 1048576) (r : ByteArray) (hr : r.size ≤ 1048576) (T : Option Addr) (ts : List ByteArray) (ct : Nat) (htn : ts.length ≤ maxLen) (htx : ∀ x ∈ ts, x.size ≤ maxLen) (x y : Int) (w : World) (hG : Glob w) (hA : PairsAt w w.heap.size A F.ps) (hT : StrsAt w w.heap.size T ts) :
    Calls Try.prog 36 #[.agg (fc F (.slice A F.ps.length c)).toArray, .string l, .string r, .slice T ts.length ct, .int .i64 x, .int .i64 y] w (P2Back (f2R F l r ts x y) (flC F l.data.toList r.data.toList ts x y) w) := by
  have hW := hide hF.len
  have HI29 := hide (show (Try.prog.info? 38).map (·.size) = some (fc F (.slice A F.ps.length c)).length from by rw [fc_length hW.out]; kernel_rfl)
  have HI33 := hide (show (Try.prog.info? 93).map (·.size) = some (blc F (.slice A F.ps.length c) l r x y).length from by rw [blc_len hW.out]; kernel_rfl)
  have hbt := built_bl hW.out (.slice A F.ps.length c) l r x y
  have hone := blc_one F A F.ps.length c l r x y
  have r0 := rangeAt_new w (fc F (.slice A F.ps.length c)) 38
  have r0' := World.rangeAt_alloc r0 (.cells #[.slice T ts.length ct] 22)
  have r1 := rangeAt_newg (w := w.alloc (.cells (fc F (.slice A F.ps.length c)).toArray 38)) (cs := #[.slice T ts.length ct]) (t := 22) (g := w.heap.size + 1) (l := [.slice T ts.length ct]) (by simp) rfl
  have t3 : (((w.alloc (.cells (fc F (.slice A F.ps.length c)).toArray 38)).alloc (.cells #[.slice T ts.length ct] 22)).alloc (.cells #[.int .i8 0, .int .i8 0, .int .i8 0, .int .i8 0, .int .i8 0, .int .i8 0, .int .i8 0, .int .i8 0, .int .i8 0, .int .i8 0, .int .i8 0, .int .i8 0, .int .i8 0, .int .i8 0, .int .i8 0, .int .i8 0, .int .i8 0, .int .i8 0, .int .i8 0, .int .i8 0, .int .i8 0, .int .i8 0, .int .i8 0, .int .i8 0, .int .i8 0, .int .i8 0, .int .i8 0, .int .i8 0, .slice none 0 0, .string ⟨#[]⟩, .string ⟨#[]⟩, .int .i64 0, .int .i64 0] 93)).there (w.heap.size + 1 + 1) 0 33 := there_newg (by simp) rfl
  have t3' : (((w.alloc (.cells (fc F (.slice A F.ps.length c)).toArray 38)).alloc (.cells #[.slice T ts.length ct] 22)).alloc (.cells #[.int .i8 0, .int .i8 0, .int .i8 0, .int .i8 0, .int .i8 0, .int .i8 0, .int .i8 0, .int .i8 0, .int .i8 0, .int .i8 0, .int .i8 0, .int .i8 0, .int .i8 0, .int .i8 0, .int .i8 0, .int .i8 0, .int .i8 0, .int .i8 0, .int .i8 0, .int .i8 0, .int .i8 0, .int .i8 0, .int .i8 0, .int .i8 0, .int .i8 0, .int .i8 0, .int .i8 0, .int .i8 0, .slice none 0 0, .string ⟨#[]⟩, .string ⟨#[]⟩, .int .i64 0, .int .i64 0] 93)).there (w.heap.size + 1 + 1) 0 (blc F (.slice A F.ps.length c) l r x y).toArray.size := by
    have e : (blc F (.slice A F.ps.length c) l r x y).toArray.size = 33 := by rw [List.size_toArray, blc_len hW.out]
    rw [e]; exact t3
  obtain ⟨W3, hW3⟩ : ∃ W3, W3 = (((w.alloc (.cells (fc F (.slice A F.ps.length c)).toArray 38)).alloc (.cells #[.slice T ts.length ct] 22)).alloc (.cells #[.int .i8 0, .int .i8 0, .int .i8 0, .int .i8 0, .int .i8 0, .int .i8 0, .int .i8 0, .int .i8 0, .int .i8 0, .int .i8 0, .int .i8 0, .int .i8 0, .int .i8 0, .int .i8 0, .int .i8 0, .int .i8 0, .int .i8 0, .int .i8 0, .int .i8 0, .int .i8 0, .int .i8 0, .int .i8 0, .int .i8 0, .int .i8 0, .int .i8 0, .int .i8 0, .int .i8 0, .int .i8 0, .slice none 0 0, .string ⟨#[]⟩, .string ⟨#[]⟩, .int .i64 0, .int .i64 0] 93)).setCells (w.heap.size + 1 + 1) 0 (blc F (.slice A F.ps.length c) l r x y).toArray.toList := ⟨_, rfl⟩
  have hb3 : Below w.heap.size w W3 := by rw [hW3]; exact below_setCells _ _ _ _ ((((Below.refl _ _).alloc (Nat.le_refl _) _).alloc (by simp) _).alloc (by simp only [World.size_alloc]; omega) _) (by omega)
  have hs3 : w.heap.size + 1 + 1 < W3.heap.size := by rw [hW3, size_setCells]; simp
  have q3 : W3.rangeAt (w.heap.size + 1 + 1) 0 (blc F (.slice A F.ps.length c) l r x y) := by rw [hW3]; exact World.rangeAt_setCells_same _ _ _ _ t3'
  have q2 : W3.cell? ⟨w.heap.size + 1, 0, none⟩ = some (.slice T ts.length ct) := by
    rw [hW3]
    have h := World.rangeAt_alloc r1 (.cells #[.int .i8 0, .int .i8 0, .int .i8 0, .int .i8 0, .int .i8 0, .int .i8 0, .int .i8 0, .int .i8 0, .int .i8 0, .int .i8 0, .int .i8 0, .int .i8 0, .int .i8 0, .int .i8 0, .int .i8 0, .int .i8 0, .int .i8 0, .int .i8 0, .int .i8 0, .int .i8 0, .int .i8 0, .int .i8 0, .int .i8 0, .int .i8 0, .int .i8 0, .int .i8 0, .int .i8 0, .int .i8 0, .slice none 0 0, .string ⟨#[]⟩, .string ⟨#[]⟩, .int .i64 0, .int .i64 0] 93)
    exact (World.rangeAt_setCells_apart (b' := w.heap.size + 1) (o' := 0) h (w.heap.size + 1 + 1) 0 _ (.inl (Nat.ne_of_lt (Nat.lt_succ_self _)))) 0 _ rfl
  have HW3 := hide hW3
  have HA3 := hide ((hA.below hb3).mono hb3.size)
  have HT3 := hide ((hT.below hb3).mono hb3.size)
  have HG3 := hide (hG.below hb3)
  have HCK := hide (fun W h1 h2 h3 => checkB_any F hF A c l r x y T ts ct W hl hr htn htx h1 h2 h3)
  clear hW3 r1
  by_cases hcode : flC F l.data.toList r.data.toList ts x y = 0
  · rw [f2_ok hcode]
    obtain ⟨z1, z2, z3, _, _, _⟩ := fl_zero hcode
    obtain ⟨hl12, hall⟩ := vlist_true.1 z2
    have HTH := hide (fun B (cb : Nat) W (hWW : Below W3.heap.size W3 W) (hB : P2At W W.heap.size B (prsL ts.length)) =>
      thoseP_any 91 (enters_of Try.func91 (by kernel_rfl) rfl) #[.pointer (some ⟨w.heap.size + 1 + 1, 0, none⟩), .pointer (some ⟨w.heap.size + 1, 0, none⟩)] (f2P F l r ts x y) B (prsL ts.length) cb W (by rw [prsL_len]; have := Nat.mul_le_mul hl12 hl12; omega) hB
        (fun u v hxm V hV => by
          obtain ⟨i, j, hi, hj, e⟩ := prsL_mem hxm
          injection e with ex ey
          subst ex ey
          have hBV := hWW.trans (hV.mono hWW.size)
          obtain ⟨b, o, rfl, hb, hxs⟩ := HT3.out (by intro e; rw [e] at hi; simp at hi)
          have hxi := List.getElem?_eq_getElem hi
          have hxj := List.getElem?_eq_getElem hj
          rw [f2P_at hxi hxj]
          have hmi := (lw_true (lw_mem hall (List.getElem_mem hi))).2.1
          have hmj := (lw_true (lw_mem hall (List.getElem_mem hj))).2.1
          exact fillT1_any F hF A c (w.heap.size + 1 + 1) (w.heap.size + 1) l r _ _ x y b o ts.length ct i j V hl hr hmi hmj z1 z3 hi hj (rangeAt_below q3 hBV hs3) (Nat.lt_of_lt_of_le hs3 hBV.size)
            ((hBV.cell (p := ⟨w.heap.size + 1, 0, none⟩) (show w.heap.size + 1 < W3.heap.size by omega)).trans q2) ((hBV.cell (p := ⟨b, o + i, none⟩) hb).trans (hxs i _ hxi)) ((hBV.cell (p := ⟨b, o + j, none⟩) hb).trans (hxs j _ hxj)) (HA3.out.go hBV (Nat.le_refl _))))
    have HID := hide (fun W => pairsOfS_any T ts.length ct W (by omega))
    have HIL := hide (prsL_len ts.length)
    rw [prsL_len] at HTH
    rw [hcode] at HCK ⊢
    clear hA hT hG htn htx
    generalize hcs : blc F (.slice A F.ps.length c) l r x y = cs at *
    go_enter Try.func36, Try.ntmps36
    repeat (first | (refine wpList_load_mid rfl 38 (.tmp 6) rfl _ 0 rfl (fc F (.slice A F.ps.length c)) _ r0' Try.underlying38 rfl HI29.out ?_) | (refine wpList_build_eq rfl 93 _ rfl hbt (by first | (simp only [List.map_toArray, List.map_cons, List.map_nil]; rfl) | kernel_rfl) ?_) | (refine wpList_store_mid rfl 93 (.tmp 14) (.tmp 21) rfl (w.heap.size + 1 + 1) 0 cs.toArray rfl rfl t3' HI33.out hone ?_; rw [← HW3.out]) | (refine wpList_load_mid rfl 93 (.tmp 14) rfl _ 0 rfl cs _ q3 Try.underlying93 rfl HI33.out ?_) | go_step)
    refine (HCK.out _ HG3.out HA3.out HT3.out).mono ?_
    rintro e w4 ⟨rfl, hb4⟩
    have q2' : w4.cell? ⟨w.heap.size + 1, 0, none⟩ = some (.slice T ts.length ct) := (hb4.cell (p := ⟨w.heap.size + 1, 0, none⟩) (show w.heap.size + 1 < W3.heap.size by omega)).trans q2
    clear r0 r0' t3 t3' q2
    go_wp2_with fail
    refine (HID.out _).mono ?_
    rintro e w5 ⟨A5, c5, rfl, hc5, hI5, hb5⟩
    rw [HIL.out] at hc5 ⊢
    have hB35 := hb4.trans (hb5.mono hb4.size)
    have hB5 := hb3.trans (hB35.mono hb3.size)
    clear q2' hb4 hb5
    go_wp2_with fail
    refine (HTH.out A5 c5 w5 hB35 hI5.at_).mono ?_
    rintro e w6 ⟨A6, c6, rfl, hc6, hI6, hb6⟩
    go_wp2
    go_ret2
    exact ⟨A6, c6, rfl, hI6.wider hB5.size, hB5.trans (hb6.mono hB5.size)⟩
  · rw [f2_no hcode]
    have hd : (flC F l.data.toList r.data.toList ts x y != 0) = true := by simpa using hcode
    have HNE := hide hcode
    clear hA hT hG htn htx hcode
    generalize flC F l.data.toList r.data.toList ts x y = C at *
    generalize hcs : blc F (.slice A F.ps.length c) l r x y = cs at *
    go_enter Try.func36, Try.ntmps36
    repeat (first | (refine wpList_load_mid rfl 38 (.tmp 6) rfl _ 0 rfl (fc F (.slice A F.ps.length c)) _ r0' Try.underlying38 rfl HI29.out ?_) | (refine wpList_build_eq rfl 93 _ rfl hbt (by first | (simp only [List.map_toArray, List.map_cons, List.map_nil]; rfl) | kernel_rfl) ?_) | (refine wpList_store_mid rfl 93 (.tmp 14) (.tmp 21) rfl (w.heap.size + 1 + 1) 0 cs.toArray rfl rfl t3' HI33.out hone ?_; rw [← HW3.out]) | (refine wpList_load_mid rfl 93 (.tmp 14) rfl _ 0 rfl cs _ q3 Try.underlying93 rfl HI33.out ?_) | go_step)
    refine (HCK.out _ HG3.out HA3.out HT3.out).mono ?_
    rintro e w4 ⟨rfl, hb4⟩
    clear r0 r0' t3 t3' q2
    go_wp2
    go_ret2
    exact ⟨none, 0, rfl, P2In.empty _ _ _, hb3.trans (hb4.mono hb3.size)⟩
end Go.Proofs.Ytajlbfbpkafjfaa
