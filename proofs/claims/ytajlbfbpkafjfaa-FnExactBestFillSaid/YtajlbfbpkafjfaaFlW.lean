/- FillWord, of both. -/
import Derived.Test.YtajlbfbpkafjfaaFlI
import Derived.Laws.Tables
namespace Go.Proofs.Ytajlbfbpkafjfaa
open Go.RowKit

theorem wpList_build_eq {P : Program} {ops : Array Oper} {rest : List Oper} {o : Oper} {a : Act} {w : World} {Q : Exit → Act → World → Prop} {vs : List (Nat × Value)} {cells : Array Value} (hg : o.guard = none) (t : TypeId) (parts : Array (Nat × Operand)) (ho : o.op = .build t parts)
    (hb : P.built t vs = some cells) (hvs : (parts.map fun (i, x) => (i, a.eval x)).toList = vs) (h : wpList P ops Q rest (a.put o.dst (.agg cells)) w) : wpList P ops Q (o :: rest) a w := by
  subst hvs; exact wpList_build hg t parts ho (by rw [hb]; rfl) (by rw [hb]; exact h)
set_option maxRecDepth 100000 in
theorem built_bl' : ∀ (W : List Int) (_ : W.length = 26) (sp gp : Int) (ps : List (Int × Int × Int)) (sl : Value) (l r : ByteArray) (x y : Int),
    Try.prog.built 93 [(0, .agg (fc ⟨W, sp, gp, ps⟩ sl).toArray), (1, .string l), (2, .string r), (3, .int .i64 x), (4, .int .i64 y)] = some (blc ⟨W, sp, gp, ps⟩ sl l r x y).toArray
  | [a0, a1, a2, a3, a4, a5, a6, a7, a8, a9, a10, a11, a12, a13, a14, a15, a16, a17, a18, a19, a20, a21, a22, a23, a24, a25], _, sp, gp, ps, sl, l, r, x, y => by kernel_rfl
theorem built_bl {F : Fc} (h : F.W.length = 26) (sl : Value) (l r : ByteArray) (x y : Int) :
    Try.prog.built 93 [(0, .agg (fc F sl).toArray), (1, .string l), (2, .string r), (3, .int .i64 x), (4, .int .i64 y)] = some (blc F sl l r x y).toArray := built_bl' F.W h F.sp F.gp F.ps sl l r x y
theorem blc_one (F : Fc) (A : Option Addr) (n c : Nat) (l r : ByteArray) (x y : Int) : (blc F (.slice A n c) l r x y).toArray.all (·.oneCell') = true :=
  all_oneCell_toArray (by
    intro v hv
    simp [blc, fc, wc] at hv
    rcases hv with ⟨a, _, rfl⟩ | rfl | rfl | rfl | rfl | rfl | rfl | rfl <;> rfl)

/-- Word number x fits. -/
noncomputable def fwP (F : Fc) (l r : ByteArray) (xs : List ByteArray) (x y : Int) (i : Int) : Bool := filB F (l ++ xs.getD i.toNat ⟨#[]⟩ ++ r).data.toList x y
noncomputable def fwR (F : Fc) (l r : ByteArray) (xs : List ByteArray) (x y : Int) : List Int := if flC F l.data.toList r.data.toList xs x y = 0 then (idxL xs.length).filter (fwP F l r xs x y) else []
theorem fw_no {F : Fc} {l r : ByteArray} {xs : List ByteArray} {x y : Int} (h : flC F l.data.toList r.data.toList xs x y ≠ 0) : fwR F l r xs x y = [] := by unfold fwR; rw [if_neg h]
theorem fw_ok {F : Fc} {l r : ByteArray} {xs : List ByteArray} {x y : Int} (h : flC F l.data.toList r.data.toList xs x y = 0) : fwR F l r xs x y = (idxL xs.length).filter (fwP F l r xs x y) := by unfold fwR; rw [if_pos h]
theorem fwR_len (F : Fc) (l r : ByteArray) (xs : List ByteArray) (x y : Int) : (fwR F l r xs x y).length ≤ 1048577 := by
  unfold fwR
  split
  · rename_i h
    have := (vlist_true.1 (fl_zero h).2.1).1
    exact Nat.le_trans (List.length_filter_le _ _) (by rw [idxL_len]; omega)
  · simp

set_option maxRecDepth 100000 in
set_option maxHeartbeats 4000000 in
theorem fillW1_any (F : Fc) (hF : F.ok) (A : Option Addr) (c : Nat) (P Q : Nat) (l r m : ByteArray) (x y : Int) (b o n ct k : Nat) (w : World) (hl : l.size ≤ 1048576) (hr : r.size ≤ 1048576) (hm : m.size ≤ 1048576) (hv : vface F = true) (hx : inB x 0 4000 = true) (hk : k < n)
    (hP : w.rangeAt P 0 (blc F (.slice A F.ps.length c) l r x y)) (hPl : P < w.heap.size) (hQ : w.cell? ⟨Q, 0, none⟩ = some (.slice (some ⟨b, o, none⟩) n ct)) (hc : w.cell? ⟨b, o + k, none⟩ = some (.string m)) (hA : PairsAt w w.heap.size A F.ps) :
    Calls Try.prog 81 #[.int .i64 (k : Int), .pointer (some ⟨P, 0, none⟩), .pointer (some ⟨Q, 0, none⟩)] w fun e w' => e = .returned (.bool (filB F (l ++ m ++ r).data.toList x y)) ∧ Below w.heap.size w w' := by
  have hi : (k : Int) < n := by omega
  have h0 : (0 : Int) ≤ k := by omega
  have HI33 := hide (show (Try.prog.info? 93).map (·.size) = some (blc F (.slice A F.ps.length c) l r x y).length from by rw [blc_len hF.len]; kernel_rfl)
  have HFI := hide (fun W (hW : Below w.heap.size w W) => fits_any F hF A c l r m x y W hl hr hm hv hx (hA.go hW (Nat.le_refl _)))
  have HRO := hide (fun w' (h : ∃ s : Over w, w' = s.w) => over_row hP hPl w' h)
  have cQ := Over.get hQ
  have cc := Over.get hc
  generalize filB F (l ++ m ++ r).data.toList x y = R at *
  generalize hcs : blc F (.slice A F.ps.length c) l r x y = cs at *
  clear hP hQ hc hA
  go_enter Try.func81, Try.ntmps81
  go_wp2
  refine wp_region_over (by kernel_rfl) (by kernel_rfl) ?_
  repeat (first | (refine wpQuiet_load_row rfl 93 (.tmp 1) rfl _ 0 rfl _ _ HRO.out Try.underlying93 rfl HI33.out ?_; simp only [Act.put, List.setIfInBounds_toArray, List.set_cons_zero, List.set_cons_succ]) | go_big_quiet_step ((go_at_call 82; exact over_call (HFI.out _ (Over.h _)))))
  refine wpQuiet_nil ?_
  intro w1 hb1
  go_wp2
  go_ret
  exact ⟨rfl, hb1⟩


set_option maxRecDepth 100000 in
set_option maxHeartbeats 8000000 in
theorem implFillWord_any (F : Fc) (hF : F.ok) (A : Option Addr) (c : Nat) (l : ByteArray) (hl : l.size ≤ 1048576) (r : ByteArray) (hr : r.size ≤ 1048576) (T : Option Addr) (ts : List ByteArray) (ct : Nat) (htn : ts.length ≤ maxLen) (htx : ∀ x ∈ ts, x.size ≤ maxLen) (x y : Int) (w : World) (hG : Glob w) (hA : PairsAt w w.heap.size A F.ps) (hT : StrsAt w w.heap.size T ts) :
    Calls Try.prog 26 #[.agg (fc F (.slice A F.ps.length c)).toArray, .string l, .string r, .slice T ts.length ct, .int .i64 x, .int .i64 y] w (IntsBack (fwR F l r ts x y) (flC F l.data.toList r.data.toList ts x y) w) := by
  have hW := hide hF.len
  have HI29 := hide (show (Try.prog.info? 38).map (·.size) = some (fc F (.slice A F.ps.length c)).length from by rw [fc_length hW.out]; kernel_rfl)
  have HI33 := hide (show (Try.prog.info? 93).map (·.size) = some (blc F (.slice A F.ps.length c) l r x y).length from by rw [blc_len hW.out]; kernel_rfl)
  have hbt := built_bl hW.out (.slice A F.ps.length c) l r x y
  have hone := blc_one F A F.ps.length c l r x y
  have r0 := rangeAt_new w (fc F (.slice A F.ps.length c)) 38
  have r0' := World.rangeAt_alloc r0 (.cells #[.slice T ts.length ct] 22)
  have r1 := rangeAt_newg (w := w.alloc (.cells (fc F (.slice A F.ps.length c)).toArray 38)) (cs := #[.slice T ts.length ct]) (t := 22) (g := w.heap.size + 1) (l := [.slice T ts.length ct]) (by simp) rfl
  have t3 : (((w.alloc (.cells (fc F (.slice A F.ps.length c)).toArray 38)).alloc (.cells #[.slice T ts.length ct] 22)).alloc (.cells #[.int .i8 0, .int .i8 0, .int .i8 0, .int .i8 0, .int .i8 0, .int .i8 0, .int .i8 0, .int .i8 0, .int .i8 0, .int .i8 0, .int .i8 0, .int .i8 0, .int .i8 0, .int .i8 0, .int .i8 0, .int .i8 0, .int .i8 0, .int .i8 0, .int .i8 0, .int .i8 0, .int .i8 0, .int .i8 0, .int .i8 0, .int .i8 0, .int .i8 0, .int .i8 0, .int .i8 0, .int .i8 0, .slice none 0 0, .string ⟨#[]⟩, .string ⟨#[]⟩, .int .i64 0, .int .i64 0] 93)).there (w.heap.size + 1 + 1) 0 33 := there_newg (by simp) rfl
  have t3' : (((w.alloc (.cells (fc F (.slice A F.ps.length c)).toArray 38)).alloc (.cells #[.slice T ts.length ct] 22)).alloc (.cells #[.int .i8 0, .int .i8 0, .int .i8 0, .int .i8 0, .int .i8 0, .int .i8 0, .int .i8 0, .int .i8 0, .int .i8 0, .int .i8 0, .int .i8 0, .int .i8 0, .int .i8 0, .int .i8 0, .int .i8 0, .int .i8 0, .int .i8 0, .int .i8 0, .int .i8 0, .int .i8 0, .int .i8 0, .int .i8 0, .int .i8 0, .int .i8 0, .int .i8 0, .int .i8 0, .int .i8 0, .int .i8 0, .slice none 0 0, .string ⟨#[]⟩, .string ⟨#[]⟩, .int .i64 0, .int .i64 0] 93)).there (w.heap.size + 1 + 1) 0 (blc F (.slice A F.ps.length c) l r x y).toArray.size := by
    have e : (blc F (.slice A F.ps.length c) l r x y).toArray.size = 33 := by rw [List.size_toArray, blc_len hW.out]
    rw [e]; exact t3
  obtain ⟨W3, hW3⟩ : ∃ W3, W3 = (((w.alloc (.cells (fc F (.slice A F.ps.length c)).toArray 38)).alloc (.cells #[.slice T ts.length ct] 22)).alloc (.cells #[.int .i8 0, .int .i8 0, .int .i8 0, .int .i8 0, .int .i8 0, .int .i8 0, .int .i8 0, .int .i8 0, .int .i8 0, .int .i8 0, .int .i8 0, .int .i8 0, .int .i8 0, .int .i8 0, .int .i8 0, .int .i8 0, .int .i8 0, .int .i8 0, .int .i8 0, .int .i8 0, .int .i8 0, .int .i8 0, .int .i8 0, .int .i8 0, .int .i8 0, .int .i8 0, .int .i8 0, .int .i8 0, .slice none 0 0, .string ⟨#[]⟩, .string ⟨#[]⟩, .int .i64 0, .int .i64 0] 93)).setCells (w.heap.size + 1 + 1) 0 (blc F (.slice A F.ps.length c) l r x y).toArray.toList := ⟨_, rfl⟩
  have hb3 : Below w.heap.size w W3 := by rw [hW3]; exact below_setCells _ _ _ _ ((((Below.refl _ _).alloc (Nat.le_refl _) _).alloc (by simp) _).alloc (by simp only [World.size_alloc]; omega) _) (by omega)
  have hs3 : w.heap.size + 1 + 1 < W3.heap.size := by rw [hW3, size_setCells]; simp
  have q3 : W3.rangeAt (w.heap.size + 1 + 1) 0 (blc F (.slice A F.ps.length c) l r x y) := by rw [hW3]; exact World.rangeAt_setCells_same _ _ _ _ t3'
  have q2 : W3.cell? ⟨w.heap.size + 1, 0, none⟩ = some (.slice T ts.length ct) := by
    rw [hW3]
    have h := World.rangeAt_alloc r1 (.cells #[.int .i8 0, .int .i8 0, .int .i8 0, .int .i8 0, .int .i8 0, .int .i8 0, .int .i8 0, .int .i8 0, .int .i8 0, .int .i8 0, .int .i8 0, .int .i8 0, .int .i8 0, .int .i8 0, .int .i8 0, .int .i8 0, .int .i8 0, .int .i8 0, .int .i8 0, .int .i8 0, .int .i8 0, .int .i8 0, .int .i8 0, .int .i8 0, .int .i8 0, .int .i8 0, .int .i8 0, .int .i8 0, .slice none 0 0, .string ⟨#[]⟩, .string ⟨#[]⟩, .int .i64 0, .int .i64 0] 93)
    exact (World.rangeAt_setCells_apart (b' := w.heap.size + 1) (o' := 0) h (w.heap.size + 1 + 1) 0 _ (.inl (Nat.ne_of_lt (Nat.lt_succ_self _)))) 0 _ rfl
  have HW3 := hide hW3
  have HA3 := hide ((hA.below hb3).mono hb3.size)
  have HT3 := hide ((hT.below hb3).mono hb3.size)
  have HG3 := hide (hG.below hb3)
  have HCK := hide (fun W h1 h2 h3 => checkB_any F hF A c l r x y T ts ct W hl hr htn htx h1 h2 h3)
  clear hW3 r1
  by_cases hcode : flC F l.data.toList r.data.toList ts x y = 0
  · rw [fw_ok hcode]
    obtain ⟨z1, z2, z3, _, _, _⟩ := fl_zero hcode
    obtain ⟨hl12, hall⟩ := vlist_true.1 z2
    have HTH := hide (fun B (cb : Nat) W (hWW : Below W3.heap.size W3 W) (hB : IntsAt W W.heap.size B (idxL ts.length)) =>
      thoseI_any 81 (enters_of Try.func81 (by kernel_rfl) rfl) (w.heap.size + 1 + 1) (w.heap.size + 1) (fwP F l r ts x y) B (idxL ts.length) cb W (by rw [idxL_len]; omega) hB
        (fun i hi V hV => by
          obtain ⟨k, hk, rfl⟩ := idxL_mem hi
          have hBV := hWW.trans (hV.mono hWW.size)
          obtain ⟨b, o, rfl, hb, hxs⟩ := HT3.out (by intro e; rw [e] at hk; simp at hk)
          have hxk := List.getElem?_eq_getElem hk
          have hget : fwP F l r ts x y (k : Int) = filB F (l ++ ts[k] ++ r).data.toList x y := by unfold fwP; rw [show ts.getD ((k : Nat) : Int).toNat ⟨#[]⟩ = ts[k] from by simp [List.getD, hxk]]
          rw [hget]
          have hms := (lw_true (lw_mem hall (List.getElem_mem hk))).2.1
          exact fillW1_any F hF A c (w.heap.size + 1 + 1) (w.heap.size + 1) l r _ x y b o ts.length ct k V hl hr (by omega) z1 z3 hk (rangeAt_below q3 hBV hs3) (Nat.lt_of_lt_of_le hs3 hBV.size)
            ((hBV.cell (p := ⟨w.heap.size + 1, 0, none⟩) (show w.heap.size + 1 < W3.heap.size by omega)).trans q2) ((hBV.cell (p := ⟨b, o + k, none⟩) hb).trans (hxs k _ hxk)) (HA3.out.go hBV (Nat.le_refl _))))
    have HID := hide (fun W => indicesS_any T ts.length ct W (by omega))
    have HIL := hide (idxL_len ts.length)
    rw [idxL_len] at HTH
    rw [hcode] at HCK ⊢
    clear hA hT hG htn htx
    generalize hcs : blc F (.slice A F.ps.length c) l r x y = cs at *
    go_enter Try.func26, Try.ntmps26
    repeat (first | (refine wpList_load_mid rfl 38 (.tmp 6) rfl _ 0 rfl (fc F (.slice A F.ps.length c)) _ r0' Try.underlying38 rfl HI29.out ?_) | (refine wpList_build_eq rfl 93 _ rfl hbt (by first | (simp only [List.map_toArray, List.map_cons, List.map_nil]; rfl) | kernel_rfl) ?_) | (refine wpList_store_mid rfl 93 (.tmp 14) (.tmp 21) rfl (w.heap.size + 1 + 1) 0 cs.toArray rfl rfl t3' HI33.out hone ?_; rw [← HW3.out]) | (refine wpList_load_mid rfl 93 (.tmp 14) rfl _ 0 rfl cs _ q3 Try.underlying93 rfl HI33.out ?_) | go_step)
    refine (HCK.out _ HG3.out HA3.out HT3.out).mono ?_
    rintro e w4 ⟨rfl, hb4⟩
    have q2' : w4.cell? ⟨w.heap.size + 1, 0, none⟩ = some (.slice T ts.length ct) := (hb4.cell (p := ⟨w.heap.size + 1, 0, none⟩) (show w.heap.size + 1 < W3.heap.size by omega)).trans q2
    clear r0 r0' t3 t3' q2
    go_wp2_with fail
    refine (HID.out _).mono ?_
    rintro e w5 ⟨A5, c5, rfl, hc5, hI5, hb5⟩
    rw [HIL.out] at hc5 ⊢
    have hB35 := hb4.trans (hb5.mono hb4.size)
    have hB5 := hb3.trans (hB35.mono hb3.size)
    clear q2' hb4 hb5
    go_wp2_with fail
    refine (HTH.out A5 c5 w5 hB35 hI5.at_).mono ?_
    rintro e w6 ⟨A6, c6, rfl, hc6, hI6, hb6⟩
    go_wp2
    go_ret2
    exact ⟨A6, c6, rfl, hI6.wider hB5.size, hB5.trans (hb6.mono hB5.size)⟩
  · rw [fw_no hcode]
    have hd : (flC F l.data.toList r.data.toList ts x y != 0) = true := by simpa using hcode
    have HNE := hide hcode
    clear hA hT hG htn htx hcode
    generalize flC F l.data.toList r.data.toList ts x y = C at *
    generalize hcs : blc F (.slice A F.ps.length c) l r x y = cs at *
    go_enter Try.func26, Try.ntmps26
    repeat (first | (refine wpList_load_mid rfl 38 (.tmp 6) rfl _ 0 rfl (fc F (.slice A F.ps.length c)) _ r0' Try.underlying38 rfl HI29.out ?_) | (refine wpList_build_eq rfl 93 _ rfl hbt (by first | (simp only [List.map_toArray, List.map_cons, List.map_nil]; rfl) | kernel_rfl) ?_) | (refine wpList_store_mid rfl 93 (.tmp 14) (.tmp 21) rfl (w.heap.size + 1 + 1) 0 cs.toArray rfl rfl t3' HI33.out hone ?_; rw [← HW3.out]) | (refine wpList_load_mid rfl 93 (.tmp 14) rfl _ 0 rfl cs _ q3 Try.underlying93 rfl HI33.out ?_) | go_step)
    refine (HCK.out _ HG3.out HA3.out HT3.out).mono ?_
    rintro e w4 ⟨rfl, hb4⟩
    clear r0 r0' t3 t3' q2
    go_wp2
    go_ret2
    exact ⟨none, 0, rfl, IntsIn.empty _ _ _, hb3.trans (hb4.mono hb3.size)⟩
end Go.Proofs.Ytajlbfbpkafjfaa
