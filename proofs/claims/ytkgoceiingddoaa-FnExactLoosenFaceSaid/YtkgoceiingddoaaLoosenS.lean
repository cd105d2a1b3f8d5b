/- LoosenFace of the model. -/
import Derived.Test.YtkgoceiingddoaaLoosenW
namespace Go.Proofs.Ytkgoceiingddoaa
open Go.RowKit

/-- Pairs are appended to an empty slice of the call's own. -/
theorem wpList_append_pairs {w : World} {ops : Array Oper} {rest : List Oper} {o : Oper} {a : Act} {Q : Exit → Act → World → Prop} (hgd : o.guard = none) (s x : Operand)
    (ho : o.op = .call { callee := .builtin .append, args := #[s, x], argTypes := #[31, 31] })
    (base B : Nat) (v : Value) (hs : a.eval s = v) (hown : w.ownsRow base 55 3 v 0 []) (hbase : base ≤ w.heap.size)
    (A : Option Addr) (ps : List (Int × Int × Int)) (c : Nat) (hx : a.eval x = .slice A ps.length c) (hn : ps.length ≤ 1048576) (hA : PairsAt w B A ps) (hB : B ≤ w.heap.size)
    (h : ∀ A' c' w1, ps.length ≤ c' → PairsIn w1 base A' ps → w.grownBy w1 v.ownBlock → wpList Try.prog ops Q rest (a.put o.dst (.slice A' ps.length c')) w1) : wpList Try.prog ops Q (o :: rest) a w := by
  obtain ⟨i0, hi0, hz0, hz1, hz2⟩ := info_parts Try.infoPair2
  cases A with
  | none =>
    have hps : ps = [] := by
      cases ps with
      | nil => rfl
      | cons p r => obtain ⟨b, o, e, _⟩ := hA (by simp); cases e
    subst hps
    obtain ⟨A', c', rfl, hc', hP⟩ := pairsIn_of_own (ps := []) hown rfl hbase
    exact wpList_append_none_any hgd s x 31 ho base 55 i0 3 Try.underlying31 hi0 _ 0 c _ hs hown hx (h A' c' w hc' hP (grown_refl _ _))
  | some ad =>
    have hnews : ∀ j u, (flat ps)[j]? = some u → w.cell? (ad.add j) = some u := by
      by_cases hne : ps = []
      · subst hne; intro j u hu; simp [flat] at hu
      · obtain ⟨b, o', e, hb, hps⟩ := hA hne
        injection e with e
        subst e
        intro j u hu
        exact news_of hps j u hu
    refine wpList_append_own _ hgd s x 31 ho base 55 i0 _ 3 3 Try.underlying31 hi0 hz0 hz1 hz2 rfl (by decide) v 0 [] hs hown ad ps.length c (flat ps) hx (flat_len ps) hnews (flat_one ps) (by unfold maxLen; omega) (by omega) hbase ?_
    intro v' w1 hown1 hgrow _
    rw [List.nil_append, Nat.zero_add] at hown1
    obtain ⟨A', c', rfl, hc', hP⟩ := pairsIn_of_own hown1 rfl (Nat.le_trans hbase hgrow.size)
    exact h A' c' w1 hc' hP hgrow

set_option maxRecDepth 100000 in
set_option maxHeartbeats 8000000 in
theorem specLoosenFace_any (F : Fc) (hF : F.ok) (A : Option Addr) (c : Nat) (x : Int) (hx : (Lit.int .i64 x).wf = true) (w : World) (hn : F.ps.length ≤ 1048576) (hA : PairsAt w w.heap.size A F.ps) :
    Calls Try.prog 63 #[.agg (fc F (.slice A F.ps.length c)).toArray, .int .i64 x] w (FaceBack (lfF F x) (lfC F x) w) := by
  have hW := hide hF.len
  have r0 := World.rangeAt_alloc (rangeAt_new w (fc F (.slice A F.ps.length c)) 33) (.cells #[.int .i8 0, .int .i8 0, .int .i8 0, .int .i8 0, .int .i8 0, .int .i8 0, .int .i8 0, .int .i8 0, .int .i8 0, .int .i8 0, .int .i8 0, .int .i8 0, .int .i8 0, .int .i8 0, .int .i8 0, .int .i8 0, .int .i8 0, .int .i8 0, .int .i8 0, .int .i8 0, .int .i8 0, .int .i8 0, .int .i8 0, .int .i8 0, .int .i8 0, .int .i8 0, .int .i8 0, .int .i8 0, .slice none 0 0] 33)
  have t0 := World.there_alloc (there_newg (w := w) (cs := (fc F (.slice A F.ps.length c)).toArray) (t := 33) (g := w.heap.size) (n := 29) rfl (by simp only [List.size_toArray]; rw [fc_length hW.out])) (.cells #[.int .i8 0, .int .i8 0, .int .i8 0, .int .i8 0, .int .i8 0, .int .i8 0, .int .i8 0, .int .i8 0, .int .i8 0, .int .i8 0, .int .i8 0, .int .i8 0, .int .i8 0, .int .i8 0, .int .i8 0, .int .i8 0, .int .i8 0, .int .i8 0, .int .i8 0, .int .i8 0, .int .i8 0, .int .i8 0, .int .i8 0, .int .i8 0, .int .i8 0, .int .i8 0, .int .i8 0, .int .i8 0, .slice none 0 0] 33)
  have z0 := there_newg (w := w.alloc (.cells (fc F (.slice A F.ps.length c)).toArray 33)) (cs := #[.int .i8 0, .int .i8 0, .int .i8 0, .int .i8 0, .int .i8 0, .int .i8 0, .int .i8 0, .int .i8 0, .int .i8 0, .int .i8 0, .int .i8 0, .int .i8 0, .int .i8 0, .int .i8 0, .int .i8 0, .int .i8 0, .int .i8 0, .int .i8 0, .int .i8 0, .int .i8 0, .int .i8 0, .int .i8 0, .int .i8 0, .int .i8 0, .int .i8 0, .int .i8 0, .int .i8 0, .int .i8 0, .slice none 0 0]) (t := 33) (g := w.heap.size + 1) (n := 29) (by simp) rfl
  have b0 : Below w.heap.size w ((w.alloc (.cells (fc F (.slice A F.ps.length c)).toArray 33)).alloc (.cells #[.int .i8 0, .int .i8 0, .int .i8 0, .int .i8 0, .int .i8 0, .int .i8 0, .int .i8 0, .int .i8 0, .int .i8 0, .int .i8 0, .int .i8 0, .int .i8 0, .int .i8 0, .int .i8 0, .int .i8 0, .int .i8 0, .int .i8 0, .int .i8 0, .int .i8 0, .int .i8 0, .int .i8 0, .int .i8 0, .int .i8 0, .int .i8 0, .int .i8 0, .int .i8 0, .int .i8 0, .int .i8 0, .slice none 0 0] 33)) := ((Below.refl _ _).alloc (Nat.le_refl _) _).alloc (by simp) _
  have s0 : w.heap.size + 1 < ((w.alloc (.cells (fc F (.slice A F.ps.length c)).toArray 33)).alloc (.cells #[.int .i8 0, .int .i8 0, .int .i8 0, .int .i8 0, .int .i8 0, .int .i8 0, .int .i8 0, .int .i8 0, .int .i8 0, .int .i8 0, .int .i8 0, .int .i8 0, .int .i8 0, .int .i8 0, .int .i8 0, .int .i8 0, .int .i8 0, .int .i8 0, .int .i8 0, .int .i8 0, .int .i8 0, .int .i8 0, .int .i8 0, .int .i8 0, .int .i8 0, .int .i8 0, .int .i8 0, .int .i8 0, .slice none 0 0] 33)).heap.size := by simp
  have HII := hide (show ∀ F : Fc, F.W.length = 26 → ∀ sl, (Try.prog.info? 33).map (·.size) = some (fc F sl).length from fun F h sl => by rw [fc_length h]; kernel_rfl)
  have HI29 := hide (show (Try.prog.info? 33).map (·.size) = some zc.toArray.size from by kernel_rfl)
  have BA := hA.below b0
  have hA0 := hA
  have HC := hide (l01Face_any F hF _ A c _ r0 (BA.mono b0.size))
  generalize hR : lfF F x = R
  generalize hC : lfC F x = C
  have HR := hide hR
  have HCo := hide hC
  clear hA hR hC
  cases hv : vface F
  · have HP := hide (lf_inv hv x)
    go_enter Try.func63, Try.ntmps63
    go_wp2_with fail
    generalize ((w.alloc (.cells (fc F (.slice A F.ps.length c)).toArray 33)).alloc (.cells #[.int .i8 0, .int .i8 0, .int .i8 0, .int .i8 0, .int .i8 0, .int .i8 0, .int .i8 0, .int .i8 0, .int .i8 0, .int .i8 0, .int .i8 0, .int .i8 0, .int .i8 0, .int .i8 0, .int .i8 0, .int .i8 0, .int .i8 0, .int .i8 0, .int .i8 0, .int .i8 0, .int .i8 0, .int .i8 0, .int .i8 0, .int .i8 0, .int .i8 0, .int .i8 0, .int .i8 0, .int .i8 0, .slice none 0 0] 33)) = W0 at *
    refine HC.out.mono ?_
    rintro e w1 ⟨rfl, hb1⟩
    simp only [hv]
    have z1 : w1.there (w.heap.size + 1) 0 zc.toArray.size := there_below z0 hb1 s0
    go_wp2_with (refine wpList_store_mid rfl 33 (.tmp 4) (.tmp 8) rfl (w.heap.size + 1) 0 zc.toArray rfl rfl z1 HI29.out (by kernel_rfl) ?_)
    refine bodyPost_ret (results_mid2 rfl _ _ (w.heap.size + 1) 0 zc _ rfl (zc_row z1) Try.underlying33 rfl HI29.out) rfl (back_zero (HR.out.symm.trans HP.out.1) (by show Value.int .i64 _ = _; rw [← HCo.out, HP.out.2]) (b0.trans (hb1.mono b0.size)) (by omega))
  · cases hx1 : inB x (-10) 10
    · have HP := hide (lf_state hv (x := x) (by rw [hx1]; rfl))
      go_enter Try.func63, Try.ntmps63
      go_wp2_with fail
      generalize ((w.alloc (.cells (fc F (.slice A F.ps.length c)).toArray 33)).alloc (.cells #[.int .i8 0, .int .i8 0, .int .i8 0, .int .i8 0, .int .i8 0, .int .i8 0, .int .i8 0, .int .i8 0, .int .i8 0, .int .i8 0, .int .i8 0, .int .i8 0, .int .i8 0, .int .i8 0, .int .i8 0, .int .i8 0, .int .i8 0, .int .i8 0, .int .i8 0, .int .i8 0, .int .i8 0, .int .i8 0, .int .i8 0, .int .i8 0, .int .i8 0, .int .i8 0, .int .i8 0, .int .i8 0, .slice none 0 0] 33)) = W0 at *
      refine HC.out.mono ?_
      rintro e w1 ⟨rfl, hb1⟩
      simp only [hv]
      have z1 : w1.there (w.heap.size + 1) 0 zc.toArray.size := there_below z0 hb1 s0
      go_wp2_with (first | (go_at_call 65; refine (l00In_any _ _ _ _).mono ?_; rintro e w' ⟨rfl, rfl⟩; simp only [hx1]) | (refine wpList_store_mid rfl 33 (.tmp 4) (.tmp 12) rfl (w.heap.size + 1) 0 zc.toArray rfl rfl z1 HI29.out (by kernel_rfl) ?_))
      refine bodyPost_ret (results_mid2 rfl _ _ (w.heap.size + 1) 0 zc _ rfl (zc_row z1) Try.underlying33 rfl HI29.out) rfl (back_zero (HR.out.symm.trans HP.out.1) (by show Value.int .i64 _ = _; rw [← HCo.out, HP.out.2]) (b0.trans (hb1.mono b0.size)) (by omega))
    · obtain ⟨x1, x2⟩ := inB_true.1 hx1
      obtain ⟨gp1, gp2⟩ := shape_gap (vface_true.1 hv).2.gp
      have x27 := rangeAt_cell r0 (fc_gp hW.out _)
      have f27 := (t0 27 (by omega)).2
      simp only [Nat.zero_add] at f27
      have e1 := IntWalk.i8_in x ⟨by omega, by omega⟩
      have e2 := IntWalk.i8_in (F.gp + x) ⟨by omega, by omega⟩
      have hLok := loose_ok hF hv hx1
      go_enter Try.func63, Try.ntmps63
      go_wp2_with fail
      generalize ((w.alloc (.cells (fc F (.slice A F.ps.length c)).toArray 33)).alloc (.cells #[.int .i8 0, .int .i8 0, .int .i8 0, .int .i8 0, .int .i8 0, .int .i8 0, .int .i8 0, .int .i8 0, .int .i8 0, .int .i8 0, .int .i8 0, .int .i8 0, .int .i8 0, .int .i8 0, .int .i8 0, .int .i8 0, .int .i8 0, .int .i8 0, .int .i8 0, .int .i8 0, .int .i8 0, .int .i8 0, .int .i8 0, .int .i8 0, .int .i8 0, .int .i8 0, .int .i8 0, .int .i8 0, .slice none 0 0] 33)) = W0 at *
      refine HC.out.mono ?_
      rintro e w1 ⟨rfl, hb1⟩
      simp only [hv]
      have hB1 := b0.trans (hb1.mono b0.size)
      have s1 := Nat.lt_of_lt_of_le s0 hb1.size
      have z1 : w1.there (w.heap.size + 1) 0 29 := there_below z0 hb1 s0
      have r1 := rangeAt_below r0 hb1 (by omega)
      have t1 := there_below t0 hb1 (by omega)
      have c27 := (hb1.cell (p := ⟨w.heap.size, 27, none⟩) (by show w.heap.size < _; omega)).trans x27
      have g27 := (hb1.frozen (p := ⟨w.heap.size, 27, none⟩) (by show w.heap.size < _; omega)).trans f27
      clear x27 f27
      obtain ⟨W2, hW2⟩ : ∃ W2, W2 = w1.setCell ⟨w.heap.size, 27, none⟩ (.int .i8 (F.gp + x)) := ⟨_, rfl⟩
      have r2 : W2.rangeAt w.heap.size 0 (fc (loose F x) (.slice A F.ps.length c)) := by rw [hW2]; exact fc_gap hW.out r1 t1 x
      have z2 : W2.there (w.heap.size + 1) 0 29 := by rw [hW2]; exact there_set z1 _ _
      have t2 : W2.there w.heap.size 0 29 := by rw [hW2]; exact there_set t1 _ _
      have hB2 : Below w.heap.size w W2 := by rw [hW2]; exact hB1.setCell (p := ⟨w.heap.size, 27, none⟩) (Nat.le_refl _) _
      have s2 : w.heap.size + 1 < W2.heap.size := by rw [hW2, size_setCell]; exact s1
      have hPL : PairsAt W2 w.heap.size A (loose F x).ps := hA0.below hB2
      have hsz : W2.heap.size = w1.heap.size := by rw [hW2, size_setCell]
      have y28 : ((w1.setCell ⟨w.heap.size, 27, none⟩ (.int .i8 (F.gp + x))).alloc (.cells #[] 55)).cell? ⟨w.heap.size, 28, none⟩ = some (.slice A F.ps.length c) := by
        rw [← hW2, World.cell?_alloc_lt _ _ _ (by show w.heap.size < _; omega)]; exact rangeAt_cell r2 (fc_sl (F := loose F x) hW.out _)
      have HW2 := hide hW2
      clear hW2
      have x28 := rangeAt_cell r2 (fc_sl (F := loose F x) hW.out _)
      have hown := World.ownsRow_made (base := W2.heap.size) (e := 55) (size := 3) W2 #[] 0 (Nat.le_refl _) (by unfold maxLen; omega) rfl
      rw [hsz] at hown
      have HO := hide hown
      have HSZ := hide hsz
      have hbA := (Below.refl W2.heap.size W2).alloc (Nat.le_refl _) (.cells #[] 55)
      clear hown x28 hsz
      go_wp2_with (first | (go_at_call 65; refine (l00In_any _ _ _ _).mono ?_; rintro e w' ⟨rfl, rfl⟩; simp only [hx1]) | (at_builtin; rw [← HW2.out]; refine wpList_append_pairs rfl (.tmp 19) (.tmp 21) rfl w1.heap.size w.heap.size _ rfl HO.out (by rw [← HSZ.out]; simp) A (loose F x).ps c rfl hn (hPL.below (hbA.mono (by omega))) (by simp; omega) ?_; intro A4 c4 w4 hc4 hP4 hg4; have hb4 : Below W2.heap.size W2 w4 := hbA.grown hg4 (by simp) (fun k e => by cases e; rw [HSZ.out]; exact Nat.le_refl _); have q28 := rangeAt_cell (rangeAt_below r2 hb4 (by omega)) (fc_sl (F := loose F x) hW.out _); have f28 := (there_below t2 hb4 (by omega) 28 (by omega)).2; simp only [Nat.zero_add] at f28))
      have r4 := rangeAt_below r2 hb4 (by omega)
      have t4 := there_below t2 hb4 (by omega)
      have z4 := there_below z2 hb4 s2
      have hB4 := hB2.trans (hb4.mono hB2.size)
      obtain ⟨W5, hW5⟩ : ∃ W5, W5 = w4.setCell ⟨w.heap.size, 28, none⟩ (.slice A4 (loose F x).ps.length c4) := ⟨_, rfl⟩
      have r5 : W5.rangeAt w.heap.size 0 (fc (loose F x) (.slice A4 (loose F x).ps.length c4)) := by rw [hW5]; exact fc_slot (F := loose F x) hW.out r4 _
      have z5 : W5.there (w.heap.size + 1) 0 29 := by rw [hW5]; exact there_set z4 _ _
      have hB5 : Below w.heap.size w W5 := by rw [hW5]; exact hB4.setCell (p := ⟨w.heap.size, 28, none⟩) (Nat.le_refl _) _
      have s5 : w.heap.size + 1 < W5.heap.size := by rw [hW5, size_setCell]; exact Nat.lt_of_lt_of_le s2 hb4.size
      have hP5 : PairsIn W5 w1.heap.size A4 (loose F x).ps := by
        rw [hW5]
        intro hne
        obtain ⟨b, o, e, h1, h2, h3, h4⟩ := hP4 hne
        exact ⟨b, o, e, h1, by rw [size_setCell]; exact h2, fun k p hp => rangeAt_off (h3 k p hp) (.inl (by omega)) _, there_set h4 _ _⟩
      rw [← hW5]
      clear hW5 q28 f28
      refine (l01Face_any (loose F x) hLok _ A4 c4 _ r5 hP5.at_).mono ?_
      rintro e w6 ⟨rfl, hb6⟩
      have hB6 := hB5.trans (hb6.mono hB5.size)
      have r6 := rangeAt_below r5 hb6 (by omega)
      have z6 := there_below z5 hb6 s5
      have hP6 := hP5.below hb6 (Nat.le_refl _)
      cases hv2 : vface (loose F x)
      · have HP := hide (lf_state hv (x := x) (by rw [hx1, hv2]; rfl))
        have z6' : w6.there (w.heap.size + 1) 0 zc.toArray.size := z6
        go_wp2_with (refine wpList_store_mid rfl 33 (.tmp 4) (.tmp 26) rfl (w.heap.size + 1) 0 zc.toArray rfl rfl z6' HI29.out (by kernel_rfl) ?_)
        refine bodyPost_ret (results_mid2 rfl _ _ (w.heap.size + 1) 0 zc _ rfl (zc_row z6') Try.underlying33 rfl HI29.out) rfl (back_zero (HR.out.symm.trans HP.out.1) (by show Value.int .i64 _ = _; rw [← HCo.out, HP.out.2]) hB6 (by omega))
      · have HP := hide (lf_ok hv (x := x) (by rw [hx1, hv2]; rfl))
        have z7 : w6.there (w.heap.size + 1) 0 (fc (loose F x) (.slice A4 (loose F x).ps.length c4)).toArray.size := by simp only [List.size_toArray]; rw [fc_length (F := loose F x) hW.out]; exact z6
        go_wp2_with (first
          | (refine wpList_load_mid rfl 33 (.tmp 2) rfl _ 0 rfl _ _ r6 Try.underlying33 rfl (HII.out (loose F x) hW.out _) ?_)
          | (refine wpList_store_mid rfl 33 (.tmp 4) (.tmp 27) rfl (w.heap.size + 1) 0 _ rfl rfl z7 (HII.out (loose F x) hW.out _) (fc_one _ _ _ _) ?_))
        refine bodyPost_ret (results_mid2 rfl _ _ (w.heap.size + 1) 0 (fc (loose F x) (.slice A4 (loose F x).ps.length c4)) _ rfl (World.rangeAt_setCells_same _ _ _ _ z7) Try.underlying33 rfl (HII.out (loose F x) hW.out _)) rfl ?_
        have e1 : R = loose F x := HR.out.symm.trans HP.out.1
        have e2 : C = 0 := HCo.out.symm.trans HP.out.2
        subst e1; subst e2
        refine ⟨A4, c4, rfl, ?_, below_setCells _ _ _ _ hB6 (by omega)⟩
        intro hne
        obtain ⟨b, o, e, h1, h2, h3, h4⟩ := hP6 hne
        exact ⟨b, o, e, by omega, by rw [size_setCells]; exact h2, fun k p hp => World.rangeAt_setCells_apart (h3 k p hp) _ _ _ (.inl (by omega)), World.there_setCells h4 _ _ _⟩
end Go.Proofs.Ytkgoceiingddoaa
