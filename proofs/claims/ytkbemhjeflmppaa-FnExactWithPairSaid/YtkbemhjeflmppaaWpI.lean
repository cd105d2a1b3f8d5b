/- WithPair of the program. -/
import Derived.Test.YtkbemhjeflmppaaPairsWith
namespace Go.Proofs.Ytkbemhjeflmppaa
open Go Go.RowKit Go.Shelf

set_option maxRecDepth 100000 in
set_option maxHeartbeats 16000000 in
theorem implWithPair_any (F : Fc) (hF : F.ok) (b o c : Nat) (x y z : Int) (hz : -128 ≤ z ∧ z ≤ 127) (w : World) (hc : F.ps.length ≤ c) (hA : PairsAt w w.heap.size (some ⟨b, o, none⟩) F.ps) :
    Calls Try.prog 46 #[.agg (fc F (.slice (some ⟨b, o, none⟩) F.ps.length c)).toArray, .agg #[.int .u8 x, .int .u8 y, .int .i8 z]] w (FaceBack (wpF F (x, y, z)) (wpC F (x, y, z)) w) := by
  have hW := hide hF.len
  have r0 := World.rangeAt_alloc (World.rangeAt_alloc (rangeAt_new w (fc F (.slice (some ⟨b, o, none⟩) F.ps.length c)) 65) (.cells #[.int .u8 x, .int .u8 y, .int .i8 z] 69)) (.cells #[.int .i8 0, .int .i8 0, .int .i8 0, .int .i8 0, .int .i8 0, .int .i8 0, .int .i8 0, .int .i8 0, .int .i8 0, .int .i8 0, .int .i8 0, .int .i8 0, .int .i8 0, .int .i8 0, .int .i8 0, .int .i8 0, .int .i8 0, .int .i8 0, .int .i8 0, .int .i8 0, .int .i8 0, .int .i8 0, .int .i8 0, .int .i8 0, .int .i8 0, .int .i8 0, .int .i8 0, .int .i8 0, .slice none 0 0] 65)
  have t0 := World.there_alloc (World.there_alloc (there_newg (w := w) (cs := (fc F (.slice (some ⟨b, o, none⟩) F.ps.length c)).toArray) (t := 65) (g := w.heap.size) (n := 29) rfl (by simp only [List.size_toArray]; rw [fc_length hW.out])) (.cells #[.int .u8 x, .int .u8 y, .int .i8 z] 69)) (.cells #[.int .i8 0, .int .i8 0, .int .i8 0, .int .i8 0, .int .i8 0, .int .i8 0, .int .i8 0, .int .i8 0, .int .i8 0, .int .i8 0, .int .i8 0, .int .i8 0, .int .i8 0, .int .i8 0, .int .i8 0, .int .i8 0, .int .i8 0, .int .i8 0, .int .i8 0, .int .i8 0, .int .i8 0, .int .i8 0, .int .i8 0, .int .i8 0, .int .i8 0, .int .i8 0, .int .i8 0, .int .i8 0, .slice none 0 0] 65)
  have p0 := World.rangeAt_alloc (rangeAt_newg (w := (w.alloc (.cells (fc F (.slice (some ⟨b, o, none⟩) F.ps.length c)).toArray 65))) (cs := #[.int .u8 x, .int .u8 y, .int .i8 z]) (t := 69) (g := w.heap.size + 1) (l := [.int .u8 x, .int .u8 y, .int .i8 z]) (by simp) rfl) (.cells #[.int .i8 0, .int .i8 0, .int .i8 0, .int .i8 0, .int .i8 0, .int .i8 0, .int .i8 0, .int .i8 0, .int .i8 0, .int .i8 0, .int .i8 0, .int .i8 0, .int .i8 0, .int .i8 0, .int .i8 0, .int .i8 0, .int .i8 0, .int .i8 0, .int .i8 0, .int .i8 0, .int .i8 0, .int .i8 0, .int .i8 0, .int .i8 0, .int .i8 0, .int .i8 0, .int .i8 0, .int .i8 0, .slice none 0 0] 65)
  have z0 := there_newg (w := ((w.alloc (.cells (fc F (.slice (some ⟨b, o, none⟩) F.ps.length c)).toArray 65)).alloc (.cells #[.int .u8 x, .int .u8 y, .int .i8 z] 69))) (cs := #[.int .i8 0, .int .i8 0, .int .i8 0, .int .i8 0, .int .i8 0, .int .i8 0, .int .i8 0, .int .i8 0, .int .i8 0, .int .i8 0, .int .i8 0, .int .i8 0, .int .i8 0, .int .i8 0, .int .i8 0, .int .i8 0, .int .i8 0, .int .i8 0, .int .i8 0, .int .i8 0, .int .i8 0, .int .i8 0, .int .i8 0, .int .i8 0, .int .i8 0, .int .i8 0, .int .i8 0, .int .i8 0, .slice none 0 0]) (t := 65) (g := w.heap.size + 1 + 1) (n := 29) (by simp) rfl
  have b0 : Below w.heap.size w (((w.alloc (.cells (fc F (.slice (some ⟨b, o, none⟩) F.ps.length c)).toArray 65)).alloc (.cells #[.int .u8 x, .int .u8 y, .int .i8 z] 69)).alloc (.cells #[.int .i8 0, .int .i8 0, .int .i8 0, .int .i8 0, .int .i8 0, .int .i8 0, .int .i8 0, .int .i8 0, .int .i8 0, .int .i8 0, .int .i8 0, .int .i8 0, .int .i8 0, .int .i8 0, .int .i8 0, .int .i8 0, .int .i8 0, .int .i8 0, .int .i8 0, .int .i8 0, .int .i8 0, .int .i8 0, .int .i8 0, .int .i8 0, .int .i8 0, .int .i8 0, .int .i8 0, .int .i8 0, .slice none 0 0] 65)) := (((Below.refl _ _).alloc (Nat.le_refl _) _).alloc (by simp) _).alloc (by simp; omega) _
  have s0 : w.heap.size + 1 + 1 < (((w.alloc (.cells (fc F (.slice (some ⟨b, o, none⟩) F.ps.length c)).toArray 65)).alloc (.cells #[.int .u8 x, .int .u8 y, .int .i8 z] 69)).alloc (.cells #[.int .i8 0, .int .i8 0, .int .i8 0, .int .i8 0, .int .i8 0, .int .i8 0, .int .i8 0, .int .i8 0, .int .i8 0, .int .i8 0, .int .i8 0, .int .i8 0, .int .i8 0, .int .i8 0, .int .i8 0, .int .i8 0, .int .i8 0, .int .i8 0, .int .i8 0, .int .i8 0, .int .i8 0, .int .i8 0, .int .i8 0, .int .i8 0, .int .i8 0, .int .i8 0, .int .i8 0, .int .i8 0, .slice none 0 0] 65)).heap.size := by simp
  have HII := hide (show ∀ F : Fc, F.W.length = 26 → ∀ sl, (Try.prog.info? 65).map (·.size) = some (fc F sl).length from fun F h sl => by rw [fc_length h]; kernel_rfl)
  have HI29 := hide (show (Try.prog.info? 65).map (·.size) = some zc.toArray.size from by kernel_rfl)
  have BA := hA.below b0
  have HC := hide (implValidFace_any F hF _ c _ (BA.mono b0.size))
  generalize hR : wpF F (x, y, z) = R
  generalize hC : wpC F (x, y, z) = C
  have HR := hide hR
  have HCo := hide hC
  clear hA hR hC
  cases hv : vface F
  · have HP := hide (wp_inv hv (x, y, z))
    go_enter Try.func46, Try.ntmps46
    go_wp2_with (refine wpList_load_mid rfl 65 (.tmp 2) rfl _ 0 rfl _ _ r0 Try.underlying65 rfl (HII.out F hW.out _) ?_)
    generalize (((w.alloc (.cells (fc F (.slice (some ⟨b, o, none⟩) F.ps.length c)).toArray 65)).alloc (.cells #[.int .u8 x, .int .u8 y, .int .i8 z] 69)).alloc (.cells #[.int .i8 0, .int .i8 0, .int .i8 0, .int .i8 0, .int .i8 0, .int .i8 0, .int .i8 0, .int .i8 0, .int .i8 0, .int .i8 0, .int .i8 0, .int .i8 0, .int .i8 0, .int .i8 0, .int .i8 0, .int .i8 0, .int .i8 0, .int .i8 0, .int .i8 0, .int .i8 0, .int .i8 0, .int .i8 0, .int .i8 0, .int .i8 0, .int .i8 0, .int .i8 0, .int .i8 0, .int .i8 0, .slice none 0 0] 65)) = W0 at *
    refine HC.out.mono ?_
    rintro e w1 ⟨rfl, hb1⟩
    simp only [hv]
    have z1 : w1.there (w.heap.size + 1 + 1) 0 zc.toArray.size := there_below z0 hb1 s0
    go_wp2_with (refine wpList_store_mid rfl 65 (.tmp 4) (.tmp 10) rfl (w.heap.size + 1 + 1) 0 zc.toArray rfl rfl z1 HI29.out (by kernel_rfl) ?_)
    refine bodyPost_ret (results_mid2 rfl _ _ (w.heap.size + 1 + 1) 0 zc _ rfl (zc_row z1) Try.underlying65 rfl HI29.out) rfl (back_zero (HR.out.symm.trans HP.out.1) (by show Value.int .i64 _ = _; rw [← HCo.out, HP.out.2]) (b0.trans (hb1.mono b0.size)) (by omega))
  · have hn12 : F.ps.length ≤ 12 := (vface_true.1 hv).1
    have hso : sortedP F.ps := sortedP_of_good (vface_true.1 hv).2.ps
    have hgp : -128 ≤ F.gp ∧ F.gp ≤ 127 := by have := shape_gap (vface_true.1 hv).2.gp; omega
    by_cases hz0 : z = 0
    · have hd : (z == 0) = true := by simpa using hz0
      cases hcc : (cap x && cap y)
      · have hpv : pairB F.gp (x, y, z) = false := by
          rw [pairB_false]; intro h; rw [h.a, h.b] at hcc; cases hcc
        have hst : stB F (x, y, z) = false := by
          cases e : stB F (x, y, z)
          · rfl
          · rcases (stB_iff hv _).1 e with ⟨_, h1, h2⟩ | h1
            · rw [show cap x = true from h1, show cap y = true from h2] at hcc; cases hcc
            · rw [pairB_false] at hpv; exact (hpv h1).elim
        have HP := hide (wp_state hv hst)
        clear hz0
        go_enter Try.func46, Try.ntmps46
        go_wp2_with (refine wpList_load_mid rfl 65 (.tmp 2) rfl _ 0 rfl _ _ r0 Try.underlying65 rfl (HII.out F hW.out _) ?_)
        generalize (((w.alloc (.cells (fc F (.slice (some ⟨b, o, none⟩) F.ps.length c)).toArray 65)).alloc (.cells #[.int .u8 x, .int .u8 y, .int .i8 z] 69)).alloc (.cells #[.int .i8 0, .int .i8 0, .int .i8 0, .int .i8 0, .int .i8 0, .int .i8 0, .int .i8 0, .int .i8 0, .int .i8 0, .int .i8 0, .int .i8 0, .int .i8 0, .int .i8 0, .int .i8 0, .int .i8 0, .int .i8 0, .int .i8 0, .int .i8 0, .int .i8 0, .int .i8 0, .int .i8 0, .int .i8 0, .int .i8 0, .int .i8 0, .int .i8 0, .int .i8 0, .int .i8 0, .int .i8 0, .slice none 0 0] 65)) = W0 at *
        refine HC.out.mono ?_
        rintro e w1 ⟨rfl, hb1⟩
        simp only [hv]
        have p1 := rangeAt_below p0 hb1 (by omega)
        have r1 := rangeAt_below r0 hb1 (by omega)
        have a0 : w1.cell? ⟨w.heap.size + 1, 0, none⟩ = some (.int .u8 x) := p1 0 _ rfl
        have a1 : w1.cell? ⟨w.heap.size + 1, 1, none⟩ = some (.int .u8 y) := p1 1 _ rfl
        have a2 : w1.cell? ⟨w.heap.size + 1, 2, none⟩ = some (.int .i8 z) := p1 2 _ rfl
        have a27 := rangeAt_cell r1 (fc_gp hW.out _)
        clear p1 r1
        go_wp2_with fail
        refine (hasLetters_any x y z _).mono ?_
        rintro e w2 ⟨rfl, hb2⟩
        have hb12 : Below W0.heap.size W0 w2 := hb1.trans (hb2.mono hb1.size)
        rw [hcc]
        have p2 := rangeAt_below p0 hb12 (by omega)
        have r2 := rangeAt_below r0 hb12 (by omega)
        have e0 : w2.cell? ⟨w.heap.size + 1, 0, none⟩ = some (.int .u8 x) := p2 0 _ rfl
        have e1 : w2.cell? ⟨w.heap.size + 1, 1, none⟩ = some (.int .u8 y) := p2 1 _ rfl
        have e2 : w2.cell? ⟨w.heap.size + 1, 2, none⟩ = some (.int .i8 z) := p2 2 _ rfl
        have e27 := rangeAt_cell r2 (fc_gp hW.out _)
        clear p2 r2
        go_wp2_with fail
        refine (validPair_any x y z F.gp _ hz hgp).mono ?_
        rintro e w3 ⟨rfl, hbv⟩
        have hbb : Below W0.heap.size W0 w3 := hb12.trans (hbv.mono hb12.size)
        rw [hpv]
        clear a0 a1 a2 a27
        have z3 : w3.there (w.heap.size + 1 + 1) 0 zc.toArray.size := there_below z0 hbb s0
        go_wp2_with (refine wpList_store_mid rfl 65 (.tmp 4) (.tmp 27) rfl (w.heap.size + 1 + 1) 0 zc.toArray rfl rfl z3 HI29.out (by kernel_rfl) ?_)
        refine bodyPost_ret (results_mid2 rfl _ _ (w.heap.size + 1 + 1) 0 zc _ rfl (zc_row z3) Try.underlying65 rfl HI29.out) rfl (back_zero (HR.out.symm.trans HP.out.1) (by show Value.int .i64 _ = _; rw [← HCo.out, HP.out.2]) (b0.trans (hbb.mono b0.size)) (by omega))
      · have hst : stB F (x, y, z) = true := (stB_iff hv _).2 (.inl ⟨hz0, by revert hcc; cases cap x <;> simp, by revert hcc; cases cap x <;> cases cap y <;> simp⟩)
        clear hz0
        go_enter Try.func46, Try.ntmps46
        go_wp2_with (refine wpList_load_mid rfl 65 (.tmp 2) rfl _ 0 rfl _ _ r0 Try.underlying65 rfl (HII.out F hW.out _) ?_)
        generalize (((w.alloc (.cells (fc F (.slice (some ⟨b, o, none⟩) F.ps.length c)).toArray 65)).alloc (.cells #[.int .u8 x, .int .u8 y, .int .i8 z] 69)).alloc (.cells #[.int .i8 0, .int .i8 0, .int .i8 0, .int .i8 0, .int .i8 0, .int .i8 0, .int .i8 0, .int .i8 0, .int .i8 0, .int .i8 0, .int .i8 0, .int .i8 0, .int .i8 0, .int .i8 0, .int .i8 0, .int .i8 0, .int .i8 0, .int .i8 0, .int .i8 0, .int .i8 0, .int .i8 0, .int .i8 0, .int .i8 0, .int .i8 0, .int .i8 0, .int .i8 0, .int .i8 0, .int .i8 0, .slice none 0 0] 65)) = W0 at *
        refine HC.out.mono ?_
        rintro e w1 ⟨rfl, hb1⟩
        simp only [hv]
        have p1 := rangeAt_below p0 hb1 (by omega)
        have r1 := rangeAt_below r0 hb1 (by omega)
        have a0 : w1.cell? ⟨w.heap.size + 1, 0, none⟩ = some (.int .u8 x) := p1 0 _ rfl
        have a1 : w1.cell? ⟨w.heap.size + 1, 1, none⟩ = some (.int .u8 y) := p1 1 _ rfl
        have a2 : w1.cell? ⟨w.heap.size + 1, 2, none⟩ = some (.int .i8 z) := p1 2 _ rfl
        have a27 := rangeAt_cell r1 (fc_gp hW.out _)
        clear p1 r1
        go_wp2_with fail
        refine (hasLetters_any x y z _).mono ?_
        rintro e w2 ⟨rfl, hb2⟩
        have hbb : Below W0.heap.size W0 w2 := hb1.trans (hb2.mono hb1.size)
        rw [hcc]
        clear a0 a1 a2 a27

        have hB2 := b0.trans (hbb.mono b0.size)
        have s2 := Nat.lt_of_lt_of_le s0 hbb.size
        have z2 : w2.there (w.heap.size + 1 + 1) 0 zc.toArray.size := there_below z0 hbb s0
        have r2 := rangeAt_below r0 hbb (by omega)
        have t2 := there_below t0 hbb (by omega)
        have p2 := rangeAt_below p0 hbb (by omega)
        have u0 : w2.cell? ⟨w.heap.size + 1, 0, none⟩ = some (.int .u8 x) := p2 0 _ rfl
        have u1 : w2.cell? ⟨w.heap.size + 1, 1, none⟩ = some (.int .u8 y) := p2 1 _ rfl
        have u2 : w2.cell? ⟨w.heap.size + 1, 2, none⟩ = some (.int .i8 z) := p2 2 _ rfl
        have u28 := rangeAt_cell r2 (fc_sl hW.out _)
        have g28 := (t2 28 (by omega)).2
        simp only [Nat.zero_add] at g28
        have HPW := hide (pairsWith_some b o F.ps c x y z w2 hn12 hc hso (((BA.mono b0.size).below hbb).mono hbb.size))
        go_wp2_with fail
        refine HPW.out.mono ?_
        rintro e w3 ⟨A3, c3, rfl, hc3, hP3, hb3⟩
        obtain ⟨m, hm⟩ : ∃ m, (putL F.ps (x, y, z)).length = m := ⟨_, rfl⟩
        have HM := hide hm
        have hm13 : m ≤ 13 := by rw [← hm]; have := putL_len F.ps (x, y, z); omega
        have hB3 := hB2.trans (hb3.mono hB2.size)
        have r3 := rangeAt_below r2 hb3 (by omega)
        have t3 := there_below t2 hb3 (by omega)
        have z3 : w3.there (w.heap.size + 1 + 1) 0 zc.toArray.size := there_below z2 hb3 s2
        have v28 := rangeAt_cell r3 (fc_sl hW.out _)
        have k28 := (t3 28 (by omega)).2
        simp only [Nat.zero_add] at k28
        have s3 := Nat.lt_of_lt_of_le s2 hb3.size
        obtain ⟨W4, hW4⟩ : ∃ W4, W4 = w3.setCell ⟨w.heap.size, 28, none⟩ (.slice A3 m c3) := ⟨_, rfl⟩
        have r4 : W4.rangeAt w.heap.size 0 (fc (putF F (x, y, z)) (.slice A3 m c3)) := by rw [hW4]; exact fc_slot hW.out r3 _
        have w28 := rangeAt_cell r4 (fc_sl (F := putF F (x, y, z)) hW.out _)
        have z4 : W4.there (w.heap.size + 1 + 1) 0 zc.toArray.size := by rw [hW4]; exact there_set z3 _ _
        have hB4 : Below w.heap.size w W4 := by rw [hW4]; exact hB3.setCell (p := ⟨w.heap.size, 28, none⟩) (Nat.le_refl _) _
        have hP4 : PairsIn W4 w2.heap.size A3 (putL F.ps (x, y, z)) := by
          rw [hW4]
          intro hne
          obtain ⟨b', o', e, h1, h2, h3, h4⟩ := hP3 hne
          exact ⟨b', o', e, h1, by rw [size_setCell]; exact h2, fun k p hp => rangeAt_off (h3 k p hp) (.inl (by omega)) _, there_set h4 _ _⟩
        have s4 : w.heap.size + 1 + 1 < W4.heap.size := by rw [hW4, size_setCell]; exact s3
        have HW4 := hide hW4
        rw [hm]
        clear hW4 u0 u1 u2 u28 g28 hP3 p2 r2 t2
        by_cases h12 : m ≤ 12
        · have HP := hide (wp_ok hv hst (by rw [hm]; exact h12))
          have hi : ¬ (12 : Int) < m := by omega
          have z5 : W4.there (w.heap.size + 1 + 1) 0 (fc (putF F (x, y, z)) (.slice A3 m c3)).toArray.size := by simp only [List.size_toArray]; rw [fc_length (F := putF F (x, y, z)) hW.out]; exact z4
          clear hm
          go_wp2_with (first | (rw [← HW4.out]; refine wpList_load_mid rfl 65 (.tmp 2) rfl _ 0 rfl _ _ r4 Try.underlying65 rfl (HII.out (putF F (x, y, z)) hW.out _) ?_) | (refine wpList_store_mid rfl 65 (.tmp 4) (.tmp 38) rfl (w.heap.size + 1 + 1) 0 _ rfl rfl z5 (HII.out (putF F (x, y, z)) hW.out _) (fc_one _ _ _ _) ?_))
          refine bodyPost_ret (results_mid2 rfl _ _ (w.heap.size + 1 + 1) 0 (fc (putF F (x, y, z)) (.slice A3 m c3)) _ rfl (World.rangeAt_setCells_same _ _ _ _ z5) Try.underlying65 rfl (HII.out (putF F (x, y, z)) hW.out _)) rfl ?_
          have e1 : R = putF F (x, y, z) := HR.out.symm.trans HP.out.1
          have e2 : C = 0 := HCo.out.symm.trans HP.out.2
          subst e1; subst e2
          refine ⟨A3, c3, by rw [← HM.out]; rfl, ?_, below_setCells _ _ _ _ hB4 (by omega)⟩
          intro hne
          obtain ⟨b', o', e, h1, h2, h3, h4⟩ := hP4 hne
          exact ⟨b', o', e, by omega, by rw [size_setCells]; exact h2, fun k p hp => World.rangeAt_setCells_apart (h3 k p hp) _ _ _ (.inl (by omega)), World.there_setCells h4 _ _ _⟩
        · have HP := hide (wp_limit hv hst (by rw [hm]; exact h12))
          have hi : (12 : Int) < m := by omega
          clear hm
          go_wp2_with (rw [← HW4.out]; refine wpList_store_mid rfl 65 (.tmp 4) (.tmp 37) rfl (w.heap.size + 1 + 1) 0 zc.toArray rfl rfl z4 HI29.out (by kernel_rfl) ?_)
          refine bodyPost_ret (results_mid2 rfl _ _ (w.heap.size + 1 + 1) 0 zc _ rfl (zc_row z4) Try.underlying65 rfl HI29.out) rfl (back_zero (HR.out.symm.trans HP.out.1) (by show Value.int .i64 _ = _; rw [← HCo.out, HP.out.2]) hB4 (by omega))
    · have hd : (z == 0) = false := by simpa using hz0
      cases hpv : pairB F.gp (x, y, z)
      · have hst : stB F (x, y, z) = false := by
          cases e : stB F (x, y, z)
          · rfl
          · rcases (stB_iff hv _).1 e with ⟨h0, _⟩ | h1
            · exact (hz0 h0).elim
            · rw [pairB_false] at hpv; exact (hpv h1).elim
        have HP := hide (wp_state hv hst)
        clear hz0
        go_enter Try.func46, Try.ntmps46
        go_wp2_with (refine wpList_load_mid rfl 65 (.tmp 2) rfl _ 0 rfl _ _ r0 Try.underlying65 rfl (HII.out F hW.out _) ?_)
        generalize (((w.alloc (.cells (fc F (.slice (some ⟨b, o, none⟩) F.ps.length c)).toArray 65)).alloc (.cells #[.int .u8 x, .int .u8 y, .int .i8 z] 69)).alloc (.cells #[.int .i8 0, .int .i8 0, .int .i8 0, .int .i8 0, .int .i8 0, .int .i8 0, .int .i8 0, .int .i8 0, .int .i8 0, .int .i8 0, .int .i8 0, .int .i8 0, .int .i8 0, .int .i8 0, .int .i8 0, .int .i8 0, .int .i8 0, .int .i8 0, .int .i8 0, .int .i8 0, .int .i8 0, .int .i8 0, .int .i8 0, .int .i8 0, .int .i8 0, .int .i8 0, .int .i8 0, .int .i8 0, .slice none 0 0] 65)) = W0 at *
        refine HC.out.mono ?_
        rintro e w1 ⟨rfl, hb1⟩
        simp only [hv]
        have p1 := rangeAt_below p0 hb1 (by omega)
        have r1 := rangeAt_below r0 hb1 (by omega)
        have a0 : w1.cell? ⟨w.heap.size + 1, 0, none⟩ = some (.int .u8 x) := p1 0 _ rfl
        have a1 : w1.cell? ⟨w.heap.size + 1, 1, none⟩ = some (.int .u8 y) := p1 1 _ rfl
        have a2 : w1.cell? ⟨w.heap.size + 1, 2, none⟩ = some (.int .i8 z) := p1 2 _ rfl
        have a27 := rangeAt_cell r1 (fc_gp hW.out _)
        clear p1 r1
        go_wp2_with fail
        refine (validPair_any x y z F.gp _ hz hgp).mono ?_
        rintro e w2 ⟨rfl, hbv⟩
        have hbb : Below W0.heap.size W0 w2 := hb1.trans (hbv.mono hb1.size)
        rw [hpv]
        clear a0 a1 a2 a27
        have z3 : w2.there (w.heap.size + 1 + 1) 0 zc.toArray.size := there_below z0 hbb s0
        go_wp2_with (refine wpList_store_mid rfl 65 (.tmp 4) (.tmp 27) rfl (w.heap.size + 1 + 1) 0 zc.toArray rfl rfl z3 HI29.out (by kernel_rfl) ?_)
        refine bodyPost_ret (results_mid2 rfl _ _ (w.heap.size + 1 + 1) 0 zc _ rfl (zc_row z3) Try.underlying65 rfl HI29.out) rfl (back_zero (HR.out.symm.trans HP.out.1) (by show Value.int .i64 _ = _; rw [← HCo.out, HP.out.2]) (b0.trans (hbb.mono b0.size)) (by omega))
      · have hst : stB F (x, y, z) = true := (stB_iff hv _).2 (.inr (pairB_true.1 hpv))
        clear hz0
        go_enter Try.func46, Try.ntmps46
        go_wp2_with (refine wpList_load_mid rfl 65 (.tmp 2) rfl _ 0 rfl _ _ r0 Try.underlying65 rfl (HII.out F hW.out _) ?_)
        generalize (((w.alloc (.cells (fc F (.slice (some ⟨b, o, none⟩) F.ps.length c)).toArray 65)).alloc (.cells #[.int .u8 x, .int .u8 y, .int .i8 z] 69)).alloc (.cells #[.int .i8 0, .int .i8 0, .int .i8 0, .int .i8 0, .int .i8 0, .int .i8 0, .int .i8 0, .int .i8 0, .int .i8 0, .int .i8 0, .int .i8 0, .int .i8 0, .int .i8 0, .int .i8 0, .int .i8 0, .int .i8 0, .int .i8 0, .int .i8 0, .int .i8 0, .int .i8 0, .int .i8 0, .int .i8 0, .int .i8 0, .int .i8 0, .int .i8 0, .int .i8 0, .int .i8 0, .int .i8 0, .slice none 0 0] 65)) = W0 at *
        refine HC.out.mono ?_
        rintro e w1 ⟨rfl, hb1⟩
        simp only [hv]
        have p1 := rangeAt_below p0 hb1 (by omega)
        have r1 := rangeAt_below r0 hb1 (by omega)
        have a0 : w1.cell? ⟨w.heap.size + 1, 0, none⟩ = some (.int .u8 x) := p1 0 _ rfl
        have a1 : w1.cell? ⟨w.heap.size + 1, 1, none⟩ = some (.int .u8 y) := p1 1 _ rfl
        have a2 : w1.cell? ⟨w.heap.size + 1, 2, none⟩ = some (.int .i8 z) := p1 2 _ rfl
        have a27 := rangeAt_cell r1 (fc_gp hW.out _)
        clear p1 r1
        go_wp2_with fail
        refine (validPair_any x y z F.gp _ hz hgp).mono ?_
        rintro e w2 ⟨rfl, hbv⟩
        have hbb : Below W0.heap.size W0 w2 := hb1.trans (hbv.mono hb1.size)
        rw [hpv]
        clear a0 a1 a2 a27

        have hB2 := b0.trans (hbb.mono b0.size)
        have s2 := Nat.lt_of_lt_of_le s0 hbb.size
        have z2 : w2.there (w.heap.size + 1 + 1) 0 zc.toArray.size := there_below z0 hbb s0
        have r2 := rangeAt_below r0 hbb (by omega)
        have t2 := there_below t0 hbb (by omega)
        have p2 := rangeAt_below p0 hbb (by omega)
        have u0 : w2.cell? ⟨w.heap.size + 1, 0, none⟩ = some (.int .u8 x) := p2 0 _ rfl
        have u1 : w2.cell? ⟨w.heap.size + 1, 1, none⟩ = some (.int .u8 y) := p2 1 _ rfl
        have u2 : w2.cell? ⟨w.heap.size + 1, 2, none⟩ = some (.int .i8 z) := p2 2 _ rfl
        have u28 := rangeAt_cell r2 (fc_sl hW.out _)
        have g28 := (t2 28 (by omega)).2
        simp only [Nat.zero_add] at g28
        have HPW := hide (pairsWith_some b o F.ps c x y z w2 hn12 hc hso (((BA.mono b0.size).below hbb).mono hbb.size))
        go_wp2_with fail
        refine HPW.out.mono ?_
        rintro e w3 ⟨A3, c3, rfl, hc3, hP3, hb3⟩
        obtain ⟨m, hm⟩ : ∃ m, (putL F.ps (x, y, z)).length = m := ⟨_, rfl⟩
        have HM := hide hm
        have hm13 : m ≤ 13 := by rw [← hm]; have := putL_len F.ps (x, y, z); omega
        have hB3 := hB2.trans (hb3.mono hB2.size)
        have r3 := rangeAt_below r2 hb3 (by omega)
        have t3 := there_below t2 hb3 (by omega)
        have z3 : w3.there (w.heap.size + 1 + 1) 0 zc.toArray.size := there_below z2 hb3 s2
        have v28 := rangeAt_cell r3 (fc_sl hW.out _)
        have k28 := (t3 28 (by omega)).2
        simp only [Nat.zero_add] at k28
        have s3 := Nat.lt_of_lt_of_le s2 hb3.size
        obtain ⟨W4, hW4⟩ : ∃ W4, W4 = w3.setCell ⟨w.heap.size, 28, none⟩ (.slice A3 m c3) := ⟨_, rfl⟩
        have r4 : W4.rangeAt w.heap.size 0 (fc (putF F (x, y, z)) (.slice A3 m c3)) := by rw [hW4]; exact fc_slot hW.out r3 _
        have w28 := rangeAt_cell r4 (fc_sl (F := putF F (x, y, z)) hW.out _)
        have z4 : W4.there (w.heap.size + 1 + 1) 0 zc.toArray.size := by rw [hW4]; exact there_set z3 _ _
        have hB4 : Below w.heap.size w W4 := by rw [hW4]; exact hB3.setCell (p := ⟨w.heap.size, 28, none⟩) (Nat.le_refl _) _
        have hP4 : PairsIn W4 w2.heap.size A3 (putL F.ps (x, y, z)) := by
          rw [hW4]
          intro hne
          obtain ⟨b', o', e, h1, h2, h3, h4⟩ := hP3 hne
          exact ⟨b', o', e, h1, by rw [size_setCell]; exact h2, fun k p hp => rangeAt_off (h3 k p hp) (.inl (by omega)) _, there_set h4 _ _⟩
        have s4 : w.heap.size + 1 + 1 < W4.heap.size := by rw [hW4, size_setCell]; exact s3
        have HW4 := hide hW4
        rw [hm]
        clear hW4 u0 u1 u2 u28 g28 hP3 p2 r2 t2
        by_cases h12 : m ≤ 12
        · have HP := hide (wp_ok hv hst (by rw [hm]; exact h12))
          have hi : ¬ (12 : Int) < m := by omega
          have z5 : W4.there (w.heap.size + 1 + 1) 0 (fc (putF F (x, y, z)) (.slice A3 m c3)).toArray.size := by simp only [List.size_toArray]; rw [fc_length (F := putF F (x, y, z)) hW.out]; exact z4
          clear hm
          go_wp2_with (first | (rw [← HW4.out]; refine wpList_load_mid rfl 65 (.tmp 2) rfl _ 0 rfl _ _ r4 Try.underlying65 rfl (HII.out (putF F (x, y, z)) hW.out _) ?_) | (refine wpList_store_mid rfl 65 (.tmp 4) (.tmp 38) rfl (w.heap.size + 1 + 1) 0 _ rfl rfl z5 (HII.out (putF F (x, y, z)) hW.out _) (fc_one _ _ _ _) ?_))
          refine bodyPost_ret (results_mid2 rfl _ _ (w.heap.size + 1 + 1) 0 (fc (putF F (x, y, z)) (.slice A3 m c3)) _ rfl (World.rangeAt_setCells_same _ _ _ _ z5) Try.underlying65 rfl (HII.out (putF F (x, y, z)) hW.out _)) rfl ?_
          have e1 : R = putF F (x, y, z) := HR.out.symm.trans HP.out.1
          have e2 : C = 0 := HCo.out.symm.trans HP.out.2
          subst e1; subst e2
          refine ⟨A3, c3, by rw [← HM.out]; rfl, ?_, below_setCells _ _ _ _ hB4 (by omega)⟩
          intro hne
          obtain ⟨b', o', e, h1, h2, h3, h4⟩ := hP4 hne
          exact ⟨b', o', e, by omega, by rw [size_setCells]; exact h2, fun k p hp => World.rangeAt_setCells_apart (h3 k p hp) _ _ _ (.inl (by omega)), World.there_setCells h4 _ _ _⟩
        · have HP := hide (wp_limit hv hst (by rw [hm]; exact h12))
          have hi : (12 : Int) < m := by omega
          clear hm
          go_wp2_with (rw [← HW4.out]; refine wpList_store_mid rfl 65 (.tmp 4) (.tmp 37) rfl (w.heap.size + 1 + 1) 0 zc.toArray rfl rfl z4 HI29.out (by kernel_rfl) ?_)
          refine bodyPost_ret (results_mid2 rfl _ _ (w.heap.size + 1 + 1) 0 zc _ rfl (zc_row z4) Try.underlying65 rfl HI29.out) rfl (back_zero (HR.out.symm.trans HP.out.1) (by show Value.int .i64 _ = _; rw [← HCo.out, HP.out.2]) hB4 (by omega))
end Go.Proofs.Ytkbemhjeflmppaa
