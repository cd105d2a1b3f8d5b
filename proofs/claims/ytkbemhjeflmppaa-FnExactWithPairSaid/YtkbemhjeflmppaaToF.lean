/- The laws' copy of a face has an address. -/
import Derived.Test.YtkbemhjeflmppaaG2
namespace Go.Proofs.Ytkbemhjeflmppaa
open Go.RowKit

set_option maxHeartbeats 1000000 in
theorem toPairSB_any (A : Option Addr) (ps : List (Int × Int × Int)) (c : Nat) (w : World) (hA : PairsAt w w.heap.size A ps) (hn : ps.length ≤ 1048576) :
    Calls Try.prog 100 #[.slice A ps.length c] w fun e w' => ∃ bb, e = .returned (.slice (some ⟨bb, 0, none⟩) ps.length ps.length) ∧ PairsIn w' w.heap.size (some ⟨bb, 0, none⟩) ps ∧ Below w.heap.size w w' := by
  obtain ⟨i0, hi0, hz0, hz1, hz2⟩ := info_parts Try.infoPair
  have hmk := fun W => run_make_rowN (P := Try.prog) 63 69 i0 _ Try.underlying63 hi0 hz0 .i64 .i64 ps.length ps.length (Nat.le_refl _) (by rw [hz2]; omega) (by omega) W
  generalize hL : ps.length = n at *
  have HL := hide hL
  clear hL
  go_enter Try.func100, Try.ntmps100
  go_wp2
  go_loopw [4] (fun i wr => ∃ k : Nat, k ≤ n ∧ i = .int .i64 k ∧ Below w.heap.size w wr ∧ w.heap.size < wr.heap.size ∧ wr.there w.heap.size 0 (n * 3) ∧ (∀ j p, j < k → ps[j]? = some p → wr.rangeAt w.heap.size (j * 3) (pc p)))
    (fun i _ => n - (intOf i).toNat)
  case atStart =>
    refine ⟨0, by omega, rfl, (Below.refl _ _).alloc (Nat.le_refl _) _, by simp, there_newg rfl (by simp [madeCells]), fun j p hj => by omega⟩
  case round =>
    obtain ⟨k, hk, rfl, hB, hsz, ht, hr⟩ := hrel
    by_cases hlt : k < n
    · obtain ⟨b, o, rfl, hb, hps⟩ := hA (by intro e; rw [e] at HL; have := HL.out; simp at this; omega)
      obtain ⟨p, hp⟩ : ∃ p, ps[k]? = some p := ⟨ps[k]'(by rw [HL.out]; exact hlt), List.getElem?_eq_getElem _⟩
      have hcell := rangeAt_below (hps k p hp) hB hb
      obtain ⟨x, y, z⟩ := p
      have c0 := hcell 0 _ rfl
      have c1 := hcell 1 _ rfl
      have c2 := hcell 2 _ rfl
      simp only [Nat.add_zero] at c0
      clear hcell hps hmk
      go_wp2_with fail
      refine (toPair_any _ _ _ _).mono ?_
      rintro e w1 ⟨rfl, hb1⟩
      have ht1 := there_below ht hb1 hsz
      obtain ⟨v0, hv0, hf0⟩ := there_some ht1 (j := k * 3) (by omega)
      obtain ⟨v1, hv1, hf1⟩ := there_some ht1 (j := k * 3 + 1) (by omega)
      obtain ⟨v2, hv2, hf2⟩ := there_some ht1 (j := k * 3 + 2) (by omega)
      simp only [Nat.zero_add, ← Nat.add_assoc] at hv0 hv1 hv2 hf0 hf1 hf2
      have hB1 := hB.trans (hb1.mono hB.size)
      clear c0 c1 c2
      go_wp2
      have hr1 : ∀ (j : Nat) (p : Int × Int × Int), j < k → ps[j]? = some p → w1.rangeAt w.heap.size (j * 3) (pc p) := fun j p hj hq => rangeAt_below (hr j p hj hq) hb1 hsz
      refine ⟨⟨k + 1, by omega, by go_num, ((hB1.setCell (p := ⟨w.heap.size, k * 3, none⟩) (Nat.le_refl _) _).setCell (p := ⟨w.heap.size, k * 3 + 1, none⟩) (Nat.le_refl _) _).setCell (p := ⟨w.heap.size, k * 3 + 2, none⟩) (Nat.le_refl _) _, ?_, there_set (there_set (there_set ht1 _ _) _ _) _ _, ?_⟩, by simp [intOf]; omega⟩
      · have := hb1.size
        simp only [World.setCell, Array.size_modify]
        omega
      · intro j q hj hq
        by_cases e : j = k
        · subst e
          rw [hp] at hq
          injection hq with hq
          subst hq
          exact pair_stored hv0 hv1 hv2 _ _ _
        · exact rangeAt_off (rangeAt_off (rangeAt_off (hr1 j q (by omega) hq) (by right; right; simp [pc]; omega) _) (by right; right; simp [pc]; omega) _) (by right; right; simp [pc]; omega) _
    · have hk' : k = n := by omega
      subst hk'
      have hA' : PairsIn wr w.heap.size (some ⟨w.heap.size, 0, none⟩) ps := fun hne => ⟨w.heap.size, 0, rfl, Nat.le_refl _, hsz, fun j p hp => by
        rw [Nat.zero_add]; exact hr j p (by have := (List.getElem?_eq_some_iff.1 hp).1; rw [HL.out] at this; exact this) hp, by rw [HL.out]; exact ht⟩
      clear hr ht
      go_wp2
      go_ret
      exact ⟨_, rfl, hA', hB⟩
set_option maxHeartbeats 2000000 in
theorem toFaceB_any (F : Fc) (hF : F.ok) (A : Option Addr) (c : Nat) (w : World) (hA : PairsAt w w.heap.size A F.ps) (hn : F.ps.length ≤ 1048576) :
    Calls Try.prog 44 #[.agg (fc F (.slice A F.ps.length c)).toArray] w fun e w' =>
      ∃ bb, e = .returned (.agg (fc F (.slice (some ⟨bb, 0, none⟩) F.ps.length F.ps.length)).toArray) ∧ PairsIn w' w.heap.size (some ⟨bb, 0, none⟩) F.ps ∧ Below w.heap.size w w' := by
  have hW := hide hF.len
  have hr0 := rangeAt_new w (fc F (.slice A F.ps.length c)) 59
  generalize hL : F.ps.length = n at *
  have HL := hide hL
  clear hL
  have hi26 : (Try.prog.info? 23).map (·.size) = some (wc F.W).length := by rw [wc_length, hW.out]; kernel_rfl
  have hi29 : ∀ sl, (Try.prog.info? 65).map (·.size) = some (fc F sl).length := fun sl => by rw [fc_length hW.out]; kernel_rfl
  have HI26 := hide hi26
  have HI29 := hide hi29
  clear hi26 hi29
  go_enter Try.func44, Try.ntmps44
  go_wp2_with (first
        | (refine wpList_load_mid rfl 23 (.tmp 4) rfl _ 0 rfl (wc F.W) _ (World.rangeAt_alloc (World.rangeAt_alloc (rangeAt_left hr0) _) _) Try.underlying23 rfl HI26.out ?_))
  have t1 : ((w.alloc (Obj.cells (fc F (.slice A n c)).toArray 59)).alloc (Obj.cells zf 65)).there (w.heap.size + 1) 0 29 :=
    there_newg (by simp) rfl
  have t1' := World.there_alloc t1 (Obj.cells zf 65)
  have t2 : (((w.alloc (Obj.cells (fc F (.slice A n c)).toArray 59)).alloc (Obj.cells zf 65)).alloc (Obj.cells zf 65)).there (w.heap.size + 1 + 1) 0 29 :=
    there_newg (by simp) rfl
  have r0 := World.rangeAt_alloc (World.rangeAt_alloc hr0 (Obj.cells zf 65)) (Obj.cells zf 65)
  have b0 : Below w.heap.size w (((w.alloc (Obj.cells (fc F (.slice A n c)).toArray 59)).alloc (Obj.cells zf 65)).alloc (Obj.cells zf 65)) :=
    (((Below.refl _ _).alloc (Nat.le_refl _) _).alloc (by simp) _).alloc (by simp only [World.size_alloc]; omega) _
  have s0 : (((w.alloc (Obj.cells (fc F (.slice A n c)).toArray 59)).alloc (Obj.cells zf 65)).alloc (Obj.cells zf 65)).heap.size = w.heap.size + 1 + 1 + 1 := by simp
  show Calls _ _ _ (((w.alloc (Obj.cells (fc F (.slice A n c)).toArray 59)).alloc (Obj.cells zf 65)).alloc (Obj.cells zf 65)) _
  generalize (((w.alloc (Obj.cells (fc F (.slice A n c)).toArray 59)).alloc (Obj.cells zf 65)).alloc (Obj.cells zf 65)) = W0 at *
  clear t1 hr0
  refine (toInt8A26_any _ hW.out _).mono ?_
  rintro e w1 ⟨rfl, hb1⟩
  have b1 := b0.trans (hb1.mono b0.size)
  have r1 := rangeAt_below r0 hb1 (by rw [s0]; omega)
  have t11 := there_below t1' hb1 (by rw [s0]; omega)
  have t12 := there_below t2 hb1 (by rw [s0]; omega)
  have s1 : w.heap.size + 1 + 1 + 1 ≤ w1.heap.size := by rw [← s0]; exact hb1.size
  clear b0 r0 t1' t2 hb1
  obtain ⟨W2, hW2⟩ : ∃ W2, W2 = w1.setCells (w.heap.size + 1 + 1) 0 (wc F.W).toArray.toList := ⟨_, rfl⟩
  have r2 : W2.rangeAt w.heap.size 0 (fc F (.slice A n c)) := by rw [hW2]; exact World.rangeAt_setCells_apart r1 _ _ _ (.inl (by omega))
  have q2 : W2.rangeAt (w.heap.size + 1 + 1) 0 (wc F.W) := by rw [hW2]; exact World.rangeAt_setCells_same _ _ _ _ (there_part t12 (by rw [wc_length, hW.out]; omega))
  have t21 : W2.there (w.heap.size + 1) 0 29 := by rw [hW2]; exact World.there_setCells t11 _ _ _
  have t22 : W2.there (w.heap.size + 1 + 1) 0 29 := by rw [hW2]; exact World.there_setCells t12 _ _ _
  have b2 : Below w.heap.size w W2 := by rw [hW2]; exact below_setCells _ _ _ _ b1 (by omega)
  have s2 : w.heap.size + 1 + 1 + 1 ≤ W2.heap.size := by rw [hW2, size_setCells]; exact s1
  have HW2 := hide hW2
  clear hW2 b1 r1 t11 s1
  have c26 := rangeAt_cell r2 (fc_sp hW.out _)
  have c27 := rangeAt_cell r2 (fc_gp hW.out _)
  have c28 := rangeAt_cell r2 (fc_sl hW.out _)
  obtain ⟨u26, d26, f26⟩ := there_some t22 (j := 26) (by omega)
  obtain ⟨u27, d27, f27⟩ := there_some t22 (j := 27) (by omega)
  obtain ⟨u28, d28, f28⟩ := there_some t22 (j := 28) (by omega)
  simp only [Nat.zero_add] at d26 d27 d28 f26 f27 f28
  go_wp2_with (first
    | (refine wpList_store_mid rfl 23 (.tmp 7) (.tmp 6) rfl (w.heap.size + 1 + 1) 0 _ rfl rfl (there_part t12 (by simp only [List.size_toArray]; rw [wc_length, hW.out]; omega)) HI26.out (wc_one _) ?_; rw [← HW2.out]))
  have b3 : Below w.heap.size w ((W2.setCell ⟨w.heap.size + 1 + 1, 26, none⟩ (.int .i8 F.sp)).setCell ⟨w.heap.size + 1 + 1, 27, none⟩ (.int .i8 F.gp)) :=
    (b2.setCell (p := ⟨w.heap.size + 1 + 1, 26, none⟩) (by show w.heap.size ≤ w.heap.size + 1 + 1; omega) _).setCell (p := ⟨w.heap.size + 1 + 1, 27, none⟩) (by show w.heap.size ≤ w.heap.size + 1 + 1; omega) _
  have q3 := rangeAt_off (rangeAt_off q2 (g := w.heap.size + 1 + 1) (i := 26) (by right; right; rw [wc_length, hW.out]; omega) (.int .i8 F.sp)) (g := w.heap.size + 1 + 1) (i := 27) (by right; right; rw [wc_length, hW.out]; omega) (.int .i8 F.gp)
  have e26 : ((W2.setCell ⟨w.heap.size + 1 + 1, 26, none⟩ (.int .i8 F.sp)).setCell ⟨w.heap.size + 1 + 1, 27, none⟩ (.int .i8 F.gp)).cell? ⟨w.heap.size + 1 + 1, 26, none⟩ = some (.int .i8 F.sp) := by
    rw [World.cell?_setCell_other _ _ _ _ (by intro h; injection h with _ h; omega), World.cell?_setCell_same' _ _ _ (by rw [d26]; rfl)]
  have e27 : ((W2.setCell ⟨w.heap.size + 1 + 1, 26, none⟩ (.int .i8 F.sp)).setCell ⟨w.heap.size + 1 + 1, 27, none⟩ (.int .i8 F.gp)).cell? ⟨w.heap.size + 1 + 1, 27, none⟩ = some (.int .i8 F.gp) := by
    rw [World.cell?_setCell_same' _ _ _ (by rw [World.cell?_setCell_other _ _ _ _ (by intro h; injection h with _ h; omega), d27]; rfl)]
  have t31 := there_set (there_set t21 ⟨w.heap.size + 1 + 1, 26, none⟩ (.int .i8 F.sp)) ⟨w.heap.size + 1 + 1, 27, none⟩ (.int .i8 F.gp)
  have t32 := there_set (there_set t22 ⟨w.heap.size + 1 + 1, 26, none⟩ (.int .i8 F.sp)) ⟨w.heap.size + 1 + 1, 27, none⟩ (.int .i8 F.gp)
  have s3 : w.heap.size + 1 + 1 + 1 ≤ ((W2.setCell ⟨w.heap.size + 1 + 1, 26, none⟩ (.int .i8 F.sp)).setCell ⟨w.heap.size + 1 + 1, 27, none⟩ (.int .i8 F.gp)).heap.size := by rw [size_setCell, size_setCell]; exact s2
  clear HW2 b2 r2 q2 t21 t22 s2 c26 c27 c28 d26 d27 d28 f26 f27 f28 t12
  generalize (W2.setCell ⟨w.heap.size + 1 + 1, 26, none⟩ (.int .i8 F.sp)).setCell ⟨w.heap.size + 1 + 1, 27, none⟩ (.int .i8 F.gp) = W3 at *
  have hA3 := (hA.below b3).mono b3.size
  have hn' : F.ps.length ≤ 1048576 := by rw [HL.out]; exact hn
  have hc4 := toPairSB_any A F.ps c W3 hA3 hn'
  rw [HL.out] at hc4
  refine hc4.mono ?_
  clear hc4
  rintro e w4 ⟨bb, rfl, hP, hb4⟩
  generalize hA' : (some (⟨bb, 0, none⟩ : Addr)) = A' at *
  have HA' := hide hA'
  clear hA'
  have b4 := b3.trans (hb4.mono b3.size)
  have q4 := rangeAt_below q3 hb4 (by omega)
  have e26' := (hb4.cell (p := ⟨w.heap.size + 1 + 1, 26, none⟩) (by show w.heap.size + 1 + 1 < _; omega)).trans e26
  have e27' := (hb4.cell (p := ⟨w.heap.size + 1 + 1, 27, none⟩) (by show w.heap.size + 1 + 1 < _; omega)).trans e27
  have t41 := there_below t31 hb4 (by omega)
  have t42 := there_below t32 hb4 (by omega)
  obtain ⟨u28, d28, f28⟩ := there_some t42 (j := 28) (by omega)
  simp only [Nat.zero_add] at d28 f28
  have hs4 := hb4.size
  clear e26 e27 q3 t31 t32 b3 hA3
  obtain ⟨W5, hW5⟩ : ∃ W5, W5 = w4.setCell ⟨w.heap.size + 1 + 1, 28, none⟩ (.slice A' n n) := ⟨_, rfl⟩
  have q5 : W5.rangeAt (w.heap.size + 1 + 1) 0 (fc F (.slice A' n n)) := by
    rw [hW5]
    refine fc_put hW.out (rangeAt_off q4 (by right; right; rw [wc_length, hW.out]; omega) _) ?_ ?_ ?_
    · rw [World.cell?_setCell_other _ _ _ _ (by intro h; injection h with _ h; omega)]; exact e26'
    · rw [World.cell?_setCell_other _ _ _ _ (by intro h; injection h with _ h; omega)]; exact e27'
    · rw [World.cell?_setCell_same' _ _ _ (by rw [d28]; rfl)]
  have t51 : W5.there (w.heap.size + 1) 0 29 := by rw [hW5]; exact there_set t41 _ _
  have b5 : Below w.heap.size w W5 := by rw [hW5]; exact b4.setCell (p := ⟨w.heap.size + 1 + 1, 28, none⟩) (by show w.heap.size ≤ w.heap.size + 1 + 1; omega) _
  have hP5 : PairsIn W5 W3.heap.size A' F.ps := by
    rw [hW5]
    intro hne
    obtain ⟨b, o, e, h1, h2, h3, h4⟩ := hP hne
    exact ⟨b, o, e, h1, by rw [size_setCell]; exact h2, fun k p hp => rangeAt_off (h3 k p hp) (.inl (by omega)) _, there_set h4 _ _⟩
  have HW5 := hide hW5
  clear hW5 e26' e27' q4 t41 t42 b4 hP
  obtain ⟨W6, hW6⟩ : ∃ W6, W6 = W5.setCells (w.heap.size + 1) 0 (fc F (.slice A' n n)).toArray.toList := ⟨_, rfl⟩
  have q6 : W6.rangeAt (w.heap.size + 1) 0 (fc F (.slice A' n n)) := by rw [hW6]; exact World.rangeAt_setCells_same _ _ _ _ (by rw [fc_length hW.out]; exact t51)
  have b6 : Below w.heap.size w W6 := by rw [hW6]; exact below_setCells _ _ _ _ b5 (by omega)
  have hP6 : PairsIn W6 w.heap.size A' F.ps := by
    rw [hW6]
    intro hne
    obtain ⟨b, o, e, h1, h2, h3, h4⟩ := hP5 hne
    exact ⟨b, o, e, by omega, by rw [size_setCells]; exact h2, fun k p hp => World.rangeAt_setCells_apart (h3 k p hp) _ _ _ (.inl (by omega)), World.there_setCells h4 _ _ _⟩
  have HW6 := hide hW6
  clear hW6 b5 hP5
  go_wp2_with (first
    | (refine wpList_load_mid rfl 65 (.tmp 3) rfl (w.heap.size + 1 + 1) 0 rfl (fc F (.slice A' n n)) _ (by rw [← HW5.out]; exact q5) Try.underlying65 rfl (HI29.out _) ?_; rw [← HW5.out])
    | (refine wpList_store_mid rfl 65 (.tmp 2) (.tmp 18) rfl (w.heap.size + 1) 0 _ rfl rfl (by simp only [List.size_toArray]; rw [fc_length hW.out]; exact t51) (HI29.out _) (fc_one _ _ _ _) ?_; rw [← HW6.out]))
  refine bodyPost_ret (results_mid rfl _ _ (w.heap.size + 1) 0 (fc F (.slice A' n n)) _ rfl q6 Try.underlying65 rfl (HI29.out _)) rfl ⟨bb, by rw [HA'.out], by rw [HA'.out]; exact hP6, b6⟩
end Go.Proofs.Ytkbemhjeflmppaa
