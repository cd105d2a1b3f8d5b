/- PlainSystem of the model and of the program. -/
import Derived.Test.YtgklhdacnklhdaaVSys
import Derived.Test.YtgklhdacnklhdaaSyBack
import Derived.Test.YtgklhdacnklhdaaFlat
namespace Go.Proofs.Ytgklhdacnklhdaa
open Go.RowKit

noncomputable def psR (S : Sy) : Sy := if vsys S = true then ⟨S.sg, []⟩ else Sy0
noncomputable def psC (S : Sy) : Int := if vsys S = true then 0 else 1
theorem ps_no {S : Sy} (h : vsys S = false) : psR S = Sy0 ∧ psC S = 1 := by unfold psR psC; rw [h]; exact ⟨rfl, rfl⟩
theorem ps_ok {S : Sy} (h : vsys S = true) : psR S = ⟨S.sg, []⟩ ∧ psC S = 0 := by unfold psR psC; rw [h]; exact ⟨rfl, rfl⟩
theorem psR_ok {S : Sy} (hS : S.ok) : (psR S).ok := by
  unfold psR; split
  · exact ⟨hS.sg, fun _ h => (by cases h), hS.n, by show 0 ≤ maxLen; omega⟩
  · exact Sy0_ok
theorem psR_len {S : Sy} : (psR S).sg.length ≤ 1048576 ∧ (psR S).mn.length ≤ 1048576 := by
  unfold psR; split
  · rename_i h
    have := (vsys_true.1 h).sg.n8
    exact ⟨by show S.sg.length ≤ _; omega, by show 0 ≤ _; omega⟩
  · exact ⟨by show 0 ≤ _; omega, by show 0 ≤ _; omega⟩
theorem sgc_len : ∀ a, (sgc a).length = 2 := fun _ => rfl
theorem sgc_one : ∀ a, ∀ u ∈ sgc a, u.oneCell' = true := by
  intro a u hu; simp [sgc] at hu; rcases hu with rfl | rfl <;> rfl
theorem Try.infoSign2 : (Try.prog.info? 143).map (fun i => (i.zero, i.size, i.bytes)) = some (some (.agg #[.int .u8 0, .int .i16 0]), 2, 4) := by kernel_rfl

set_option maxRecDepth 100000 in
set_option maxHeartbeats 4000000 in
theorem cloneSg_any (A : Option Addr) (ps : List Dub) (c : Nat) (w : World) (hn : ps.length ≤ 1048576) (hA : SgAt w w.heap.size A ps) :
    Calls Try.prog 112 #[.slice A ps.length c] w fun e w' => ∃ A' c', e = .returned (.slice A' ps.length c') ∧ ps.length ≤ c' ∧ SgIn w' w.heap.size A' ps ∧ Below w.heap.size w w' := by
  obtain ⟨i0, hi0, hz0, hz1, hz2⟩ := info_parts Try.infoSign2
  have hq := fun (w : World) => Lib.run_eql_slice_nil (P := Try.prog) w 67 143 A ps.length c 0 0 Try.underlying67
  cases A with
  | none =>
    have hps : ps = [] := by
      cases ps with
      | nil => rfl
      | cons p r => obtain ⟨b, o, e, _⟩ := hA (by simp); cases e
    subst hps
    simp only [List.length_nil, Option.isNone_none] at hq
    go_enter Try.func112, Try.ntmps112
    go_wp2
    go_ret
    exact ⟨none, 0, rfl, by simp, RowsIn.empty _ _ _, Below.refl _ _⟩
  | some a =>
    simp only [Option.isNone_some] at hq
    have hown := World.ownsRow_made (base := w.heap.size) (e := 143) (size := 2) w #[] 0 (Nat.le_refl _) (by unfold maxLen; omega) rfl
    have hnews : ∀ j u, (ps.flatMap sgc)[j]? = some u → (w.alloc (.cells #[] 143)).cell? (a.add j) = some u := by
      by_cases hne : ps = []
      · subst hne; intro j u hu; simp at hu
      · obtain ⟨b, o, e, hb, hps⟩ := hA hne
        injection e with e
        subst e
        intro j u hu
        have h1 := rowsNews sgc_len (by omega) hps j u hu
        rw [addAt] at h1 ⊢
        rw [World.cell?_alloc_lt _ _ _ hb]; exact h1
    have HN := hide hnews
    have HO := hide hown
    clear hnews hown
    go_enter Try.func112, Try.ntmps112
    go_wp2_with (at_builtin; refine wpList_append_own _ rfl (.tmp 5) (.tmp 6) 67 rfl w.heap.size 143 i0 _ 2 4 Try.underlying67 hi0 hz0 hz1 hz2 rfl (by decide) _ _ _ rfl HO.out a ps.length c (ps.flatMap sgc) rfl (flatG_len sgc_len ps) HN.out (flatG_one sgc_one ps) (by unfold maxLen; omega) (by omega) (by simp) ?_; intro v w1 hown1 hgrow _)
    rw [List.nil_append, Nat.zero_add] at hown1
    obtain ⟨A', c', rfl, hc', hP⟩ := rowsIn_of_own sgc_len (by omega) hown1 rfl
    go_wp2
    go_ret
    exact ⟨A', c', rfl, hc', hP, ((Below.refl _ _).alloc (Nat.le_refl _) _).grown hgrow (by simp) (fun k e => by cases e; exact Nat.le_refl _)⟩

set_option maxRecDepth 100000 in
set_option maxHeartbeats 4000000 in
theorem implPlainSystem_any (Y : Sy) (hY : Y.ok) (G J : Option Addr) (cg cj : Nat) (w : World) (hG : SyAt w w.heap.size G J Y) :
    Calls Try.prog 50 #[sv Y G J cg cj] w (SysBack (psR Y) (psC Y) w) := by
  have b0 : Below w.heap.size w ((w.alloc (.cells #[.slice G Y.sg.length cg, .slice J Y.mn.length cj] 69)).alloc (.cells #[.slice none 0 0, .slice none 0 0] 69)) := ((Below.refl _ _).alloc (Nat.le_refl _) _).alloc (by simp) _
  have r0 : ((w.alloc (.cells #[.slice G Y.sg.length cg, .slice J Y.mn.length cj] 69)).alloc (.cells #[.slice none 0 0, .slice none 0 0] 69)).rangeAt w.heap.size 0 [.slice G Y.sg.length cg, .slice J Y.mn.length cj] := World.rangeAt_alloc (rangeAt_new w [.slice G Y.sg.length cg, .slice J Y.mn.length cj] _) _
  have t0 : ((w.alloc (.cells #[.slice G Y.sg.length cg, .slice J Y.mn.length cj] 69)).alloc (.cells #[.slice none 0 0, .slice none 0 0] 69)).there (w.heap.size + 1) 0 2 := there_newg (by simp) rfl
  have s0 : ((w.alloc (.cells #[.slice G Y.sg.length cg, .slice J Y.mn.length cj] 69)).alloc (.cells #[.slice none 0 0, .slice none 0 0] 69)).heap.size = w.heap.size + 1 + 1 := by simp
  have HC := hide (fun (W : World) (hB : Below w.heap.size w W) => implValidSystem_any Y hY G J cg cj W ((hG.below hB).mono hB.size))
  cases hv : vsys Y
  · obtain ⟨e1, e2⟩ := ps_no hv
    rw [e1, e2]
    clear e1 e2
    rw [hv] at HC
    go_enter Try.func50, Try.ntmps50
    go_wp2_with fail
    generalize ((w.alloc (.cells #[.slice G Y.sg.length cg, .slice J Y.mn.length cj] 69)).alloc (.cells #[.slice none 0 0, .slice none 0 0] 69)) = W0 at *
    refine (HC.out _ b0).mono ?_
    rintro e w1 ⟨rfl, hb1⟩
    have b1 := b0.trans (hb1.mono b0.size)
    have t1 := there_below t0 hb1 (by omega)
    obtain ⟨u0, d0, f0⟩ := there_some t1 (j := 0) (by omega)
    obtain ⟨u1, d1, f1⟩ := there_some t1 (j := 1) (by omega)
    simp only [Nat.zero_add] at d0 d1 f0 f1
    clear r0 t0 t1
    go_wp2
    exact bodyPost_ret (results_row2 rfl _ _ (w.heap.size + 1) 0 [.slice none 0 0, .slice none 0 0] _ rfl (two_stored d0 d1 _ _) Try.underlying69 rfl (by kernel_rfl)) rfl
      ⟨none, none, 0, 0, rfl, SyIn.empty _ _ _ _, (b1.setCell (p := ⟨w.heap.size + 1, 0, none⟩) (by show w.heap.size ≤ w.heap.size + 1; omega) _).setCell (p := ⟨w.heap.size + 1, 1, none⟩) (by show w.heap.size ≤ w.heap.size + 1; omega) _⟩
  · obtain ⟨e1, e2⟩ := ps_ok hv
    rw [e1, e2]
    clear e1 e2
    have hn : Y.sg.length ≤ 1048576 := by have := (vsys_true.1 hv).sg.n8; omega
    rw [hv] at HC
    go_enter Try.func50, Try.ntmps50
    go_wp2_with fail
    generalize ((w.alloc (.cells #[.slice G Y.sg.length cg, .slice J Y.mn.length cj] 69)).alloc (.cells #[.slice none 0 0, .slice none 0 0] 69)) = W0 at *
    refine (HC.out _ b0).mono ?_
    rintro e w1 ⟨rfl, hb1⟩
    have b1 := b0.trans (hb1.mono b0.size)
    have x0 := rangeAt_cell (rangeAt_below r0 hb1 (by omega)) (k := 0) rfl
    have z1 := hb1.size
    have t1 := there_below t0 hb1 (by omega)
    clear r0 t0
    go_wp2_with fail
    refine (cloneSg_any G Y.sg cg w1 hn ((hG.below b1).mono b1.size).1).mono ?_
    rintro e w2 ⟨A', c', rfl, hc', hP, hb2⟩
    have b2 := b1.trans (hb2.mono b1.size)
    have t2 := there_below t1 hb2 (by omega)
    obtain ⟨u0, d0, f0⟩ := there_some t2 (j := 0) (by omega)
    obtain ⟨u1, d1, f1⟩ := there_some t2 (j := 1) (by omega)
    simp only [Nat.zero_add] at d0 d1 f0 f1
    have HIN := hide (fun W (g : w2.grownBy W (some (w.heap.size + 1))) => show SyIn W w.heap.size A' none ⟨Y.sg, []⟩ from
      ⟨(grown_rowsIn g hP (fun b hb e => by have := hP.blk b hb; injection e with e; omega)).wider (by omega), RowsIn.empty _ _ _, fun k _ h => by cases h⟩)
    clear x0 t1 t2 hP
    go_wp2
    exact bodyPost_ret (results_row2 rfl _ _ (w.heap.size + 1) 0 [.slice A' Y.sg.length c', .slice none 0 0] _ rfl (two_stored d0 d1 _ _) Try.underlying69 rfl (by kernel_rfl)) rfl
      ⟨A', none, c', 0, rfl, HIN.out _ (grown_set (grown_set (grown_refl _ _) _ _) _ _), (b2.setCell (p := ⟨w.heap.size + 1, 0, none⟩) (by show w.heap.size ≤ w.heap.size + 1; omega) _).setCell (p := ⟨w.heap.size + 1, 1, none⟩) (by show w.heap.size ≤ w.heap.size + 1; omega) _⟩

set_option maxRecDepth 100000 in
set_option maxHeartbeats 4000000 in
theorem specPlainSystem_any (Y : Sy) (hY : Y.ok) (G J : Option Addr) (cg cj : Nat) (w : World) (hG : SyAt w w.heap.size G J Y) :
    Calls Try.prog 49 #[sv Y G J cg cj] w (SysBack (psR Y) (psC Y) w) := by
  obtain ⟨i0, hi0, hz0, hz1, hz2⟩ := info_parts Try.infoSign2
  have b0 : Below w.heap.size w ((w.alloc (.cells #[.slice G Y.sg.length cg, .slice J Y.mn.length cj] 69)).alloc (.cells #[.slice none 0 0, .slice none 0 0] 69)) := ((Below.refl _ _).alloc (Nat.le_refl _) _).alloc (by simp) _
  have r0 : ((w.alloc (.cells #[.slice G Y.sg.length cg, .slice J Y.mn.length cj] 69)).alloc (.cells #[.slice none 0 0, .slice none 0 0] 69)).rangeAt w.heap.size 0 [.slice G Y.sg.length cg, .slice J Y.mn.length cj] := World.rangeAt_alloc (rangeAt_new w [.slice G Y.sg.length cg, .slice J Y.mn.length cj] _) _
  have t0 : ((w.alloc (.cells #[.slice G Y.sg.length cg, .slice J Y.mn.length cj] 69)).alloc (.cells #[.slice none 0 0, .slice none 0 0] 69)).there (w.heap.size + 1) 0 2 := there_newg (by simp) rfl
  have s0 : ((w.alloc (.cells #[.slice G Y.sg.length cg, .slice J Y.mn.length cj] 69)).alloc (.cells #[.slice none 0 0, .slice none 0 0] 69)).heap.size = w.heap.size + 1 + 1 := by simp
  have HC := hide (l03Ok_any Y hY w.heap.size G J cg cj _ r0 (by omega) ((hG.below b0).mono b0.size))
  cases hv : vsys Y
  · obtain ⟨e1, e2⟩ := ps_no hv
    rw [e1, e2]
    clear e1 e2
    rw [hv] at HC
    go_enter Try.func49, Try.ntmps49
    go_wp2_with fail
    generalize ((w.alloc (.cells #[.slice G Y.sg.length cg, .slice J Y.mn.length cj] 69)).alloc (.cells #[.slice none 0 0, .slice none 0 0] 69)) = W0 at *
    refine HC.out.mono ?_
    rintro e w1 ⟨rfl, hb1⟩
    have b1 := b0.trans (hb1.mono b0.size)
    have t1 := there_below t0 hb1 (by omega)
    obtain ⟨u0, d0, f0⟩ := there_some t1 (j := 0) (by omega)
    obtain ⟨u1, d1, f1⟩ := there_some t1 (j := 1) (by omega)
    simp only [Nat.zero_add] at d0 d1 f0 f1
    clear r0 t0 t1
    go_wp2
    exact bodyPost_ret (results_row2 rfl _ _ (w.heap.size + 1) 0 [.slice none 0 0, .slice none 0 0] _ rfl (two_stored d0 d1 _ _) Try.underlying69 rfl (by kernel_rfl)) rfl
      ⟨none, none, 0, 0, rfl, SyIn.empty _ _ _ _, (b1.setCell (p := ⟨w.heap.size + 1, 0, none⟩) (by show w.heap.size ≤ w.heap.size + 1; omega) _).setCell (p := ⟨w.heap.size + 1, 1, none⟩) (by show w.heap.size ≤ w.heap.size + 1; omega) _⟩
  · obtain ⟨e1, e2⟩ := ps_ok hv
    rw [e1, e2]
    clear e1 e2
    have hn := (vsys_true.1 hv).sg.n8
    have hn1 := (vsys_true.1 hv).sg.n1
    rw [hv] at HC
    obtain ⟨bs, os, rfl, hbs, hps⟩ := hG.1 (by intro e; rw [e] at hn1; simp at hn1)
    go_enter Try.func49, Try.ntmps49
    go_wp2_with fail
    generalize ((w.alloc (.cells #[.slice (some ⟨bs, os, none⟩) Y.sg.length cg, .slice J Y.mn.length cj] 69)).alloc (.cells #[.slice none 0 0, .slice none 0 0] 69)) = W0 at *
    refine HC.out.mono ?_
    rintro e w1 ⟨rfl, hb1⟩
    have b1 := b0.trans (hb1.mono b0.size)
    have x0 := rangeAt_cell (rangeAt_below r0 hb1 (by omega)) (k := 0) rfl
    have z1 := hb1.size
    have t1 := there_below t0 hb1 (by omega)
    have hown := World.ownsRow_made (base := w1.heap.size) (e := 143) (size := 2) w1 #[] 0 (Nat.le_refl _) (by unfold maxLen; omega) rfl
    have hnews : ∀ j u, (Y.sg.flatMap sgc)[j]? = some u → (w1.alloc (.cells #[] 143)).cell? ((⟨bs, os, none⟩ : Addr).add j) = some u := fun j u hu => by
      have h1 := rowsNews sgc_len (by omega) (fun k p hp => rangeAt_below (hps k p hp) b1 hbs) j u hu
      rw [addAt] at h1 ⊢
      rw [World.cell?_alloc_lt _ _ _ (by show bs < w1.heap.size; have := b1.size; omega)]; exact h1
    have HN := hide hnews
    have HO := hide hown
    clear x0
    have x0 : (w1.alloc (.cells #[] 143)).cell? ⟨w.heap.size, 0, none⟩ = some (.slice (some ⟨bs, os, none⟩) Y.sg.length cg) := rangeAt_cell (rangeAt_below (rangeAt_below r0 hb1 (by omega)) ((Below.refl _ _).alloc (Nat.le_refl _) _) (by omega)) (k := 0) rfl
    clear r0 t0 hnews hown
    go_wp2_with (at_builtin; refine wpList_append_own _ rfl (.tmp 7) (.tmp 9) 67 rfl w1.heap.size 143 i0 _ 2 4 Try.underlying67 hi0 hz0 hz1 hz2 rfl (by decide) _ _ _ rfl HO.out ⟨bs, os, none⟩ Y.sg.length cg (Y.sg.flatMap sgc) rfl (flatG_len sgc_len Y.sg) HN.out (flatG_one sgc_one Y.sg) (by unfold maxLen; omega) (by omega) (by simp) ?_; intro v w2 hown1 hgrow _; rw [List.nil_append, Nat.zero_add] at hown1; obtain ⟨A', c', rfl, hc', hP⟩ := rowsIn_of_own sgc_len (by omega) hown1 rfl; have hb2 : Below w1.heap.size w1 w2 := ((Below.refl _ _).alloc (Nat.le_refl _) _).grown hgrow (by simp) (fun k e => by cases e; exact Nat.le_refl _); have b2 := b1.trans (hb2.mono b1.size); have t2 := there_below t1 hb2 (by omega); obtain ⟨u0, d0, f0⟩ := there_some t2 (j := 0) (by omega); obtain ⟨u1, d1, f1⟩ := there_some t2 (j := 1) (by omega); simp only [Nat.zero_add] at d0 d1 f0 f1)
    have HIN := hide (fun W (g : w2.grownBy W (some (w.heap.size + 1))) => show SyIn W w.heap.size A' none ⟨Y.sg, []⟩ from
      ⟨(grown_rowsIn g hP (fun b hb e => by have := hP.blk b hb; injection e with e; omega)).wider (by omega), RowsIn.empty _ _ _, fun k _ h => by cases h⟩)
    clear x0 t1 t2 hP HN HO
    exact bodyPost_ret (results_row2 rfl _ _ (w.heap.size + 1) 0 [.slice A' Y.sg.length c', .slice none 0 0] _ rfl (two_stored d0 d1 _ _) Try.underlying69 rfl (by kernel_rfl)) rfl
      ⟨A', none, c', 0, rfl, HIN.out _ (grown_set (grown_set (grown_refl _ _) _ _) _ _), (b2.setCell (p := ⟨w.heap.size + 1, 0, none⟩) (by show w.heap.size ≤ w.heap.size + 1; omega) _).setCell (p := ⟨w.heap.size + 1, 1, none⟩) (by show w.heap.size ≤ w.heap.size + 1; omega) _⟩
end Go.Proofs.Ytgklhdacnklhdaa
