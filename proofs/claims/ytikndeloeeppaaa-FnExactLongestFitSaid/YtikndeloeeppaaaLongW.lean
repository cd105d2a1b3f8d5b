/- LongestFit of the program. -/
import Derived.Test.YtikndeloeeppaaaLongS
import Derived.Test.YtikndeloeeppaaaSpansW
namespace Go.Proofs.Ytikndeloeeppaaa
open Go Go.RowKit Go.Shelf Go.Sort
attribute [local go_sem] Oper.semAt_some

theorem endFrom_wds (F : Fc) (pre : List Wd) : endFrom F 0 (wds pre) = preL F (wds pre) (wds pre).length := by rw [endFrom_pre]; omega

set_option maxRecDepth 100000 in
set_option maxHeartbeats 8000000 in
theorem implLongest_ok (F : Fc) (hF : F.ok) (A : Option Addr) (c : Nat) (s : ByteArray) (hs : s.size ≤ maxLen) (x0 : Int) (w : World) (hA : PairsAt w w.heap.size A F.ps) (hv : vface F = true) (ht : vtext s.data.toList = true) (hi : inB x0 0 4000 = true) :
    Calls Try.prog 43 #[.agg (fc F (.slice A F.ps.length c)).toArray, .string s, .int .i64 x0] w fun e w' => e = .returned (.tuple #[.int .i64 (lfL F (wordsL s.data.toList) x0), .int .i64 0]) ∧ Below w.heap.size w w' := by
  refine (callsIn_wide (n := 4)).1 ?_
  refine callsIn_of_wp_marks Try.func43 rfl trivial ?_ rfl
  simp only [Try.ntmps43, List.size_toArray, List.length_cons, List.length_nil, Nat.reduceAdd, Nat.reduceSub, Array.replicate_succ, Array.replicate_zero, List.push_toArray, List.append_toArray, List.nil_append, List.cons_append]
  have r0 := rangeAt_new w (fc F (.slice A F.ps.length c)) 32
  have hBw : Below w.heap.size w (w.alloc (.cells (fc F (.slice A F.ps.length c)).toArray 32)) := (Below.refl _ _).alloc (Nat.le_refl _) _
  have hs0 : w.heap.size < (w.alloc (.cells (fc F (.slice A F.ps.length c)).toArray 32)).heap.size := by simp
  have hsz : (w.alloc (.cells (fc F (.slice A F.ps.length c)).toArray 32)).heap.size = w.heap.size + 1 := by simp
  have HSZ := hide hsz
  have HII := hide (show (Try.prog.info? 32).map (·.size) = some (fc F (.slice A F.ps.length c)).length by rw [fc_length hF.len]; kernel_rfl)
  have HWo := hide (fun w => implValidText_any s w hs)
  have HIN := hide hi
  have hx := inB_true.1 hi
  obtain ⟨x1, x2⟩ := hx
  have mixed : Try.prog.follows .mixedOrders = true := by kernel_rfl
  clear hi
  have hBx : Below (w.alloc (.cells (fc F (.slice A F.ps.length c)).toArray 32)).heap.size (w.alloc (.cells (fc F (.slice A F.ps.length c)).toArray 32)) ((w.alloc (.cells (fc F (.slice A F.ps.length c)).toArray 32)).alloc (.cells #[.int .i64 x0] 2)) := (Below.refl _ _).alloc (Nat.le_refl _) _
  have r1 := rangeAt_below r0 hBx hs0
  have hBw1 := hBw.trans (hBx.mono hBw.size)
  have cx1 : ((w.alloc (.cells (fc F (.slice A F.ps.length c)).toArray 32)).alloc (.cells #[.int .i64 x0] 2)).cell? ⟨w.heap.size + 1, 0, none⟩ = some (.int .i64 x0) := by simp [go_sem]
  have hsx : ((w.alloc (.cells (fc F (.slice A F.ps.length c)).toArray 32)).alloc (.cells #[.int .i64 x0] 2)).heap.size = w.heap.size + 1 + 1 := by simp
  have HC := hide (implValidFace_any F hF A c _ ((hA.below hBw1).mono hBw1.size))
  gi_wp2_with (refine wpListIn_load_mid rfl 32 (.tmp 3) rfl _ 0 rfl _ _ r1 Try.underlying32 rfl HII.out ?_)
  clear hBw hs0 hBx r0
  generalize (w.alloc (.cells (fc F (.slice A F.ps.length c)).toArray 32)).alloc (.cells #[.int .i64 x0] 2) = W0 at *
  refine ⟨trivial, ?_⟩
  gi_at_call 87
  refine (callsIn_wide.2 HC.out).mono ?_
  rintro e w1 ⟨rfl, hb1⟩
  simp only [hv]
  gi_wp2
  refine ⟨trivial, ?_⟩
  refine (callsIn_wide.2 (HWo.out _)).mono ?_
  rintro e w2 ⟨rfl, hb2⟩
  simp only [ht]
  have hb12 := hb1.trans (hb2.mono hb1.size)
  have hB2 := hBw1.trans (hb12.mono hBw1.size)
  have r2 := rangeAt_below r1 hb12 (by omega)
  have cx2 := (hb12.cell (p := ⟨w.heap.size + 1, 0, none⟩) (by show w.heap.size + 1 < _; omega)).trans cx1
  have hlt2 : w.heap.size + 1 < w2.heap.size := by have := hb12.size; omega
  clear r1 cx1 hb1 hb2 hb12 HC HWo hsx
  gi_wp2_with (refine ⟨trivial, ?_⟩; gi_at_call 107; refine (callsIn_wide.2 (validWide_any _ _)).mono ?_; rintro e w' ⟨rfl, rfl⟩; rw [HIN.out])
  gi_wp2_with (refine ⟨trivial, ?_⟩; gi_at_call 101; refine (callsIn_wide.2 (wordsIn_any s _)).mono ?_; rintro e w3 ⟨rfl, HB3, hb3⟩)
  have hs3 := hb3.size
  have c8 : w3.cell? ⟨w2.heap.size, 0, none⟩ = some (.int .i64 0) := (hb3.cell (p := ⟨w2.heap.size, 0, none⟩) (by simp <;> omega)).trans (by simp [go_sem])
  have f8 : w3.frozen? ⟨w2.heap.size, 0, none⟩ = false := frozen_below hb3 (by simp <;> omega) (by simp [go_sem])
  have c9 : w3.cell? ⟨w2.heap.size + 1, 0, none⟩ = some (.int .i64 0) := (hb3.cell (p := ⟨w2.heap.size + 1, 0, none⟩) (by simp <;> omega)).trans (by simp [go_sem])
  have f9 : w3.frozen? ⟨w2.heap.size + 1, 0, none⟩ = false := frozen_below hb3 (by simp <;> omega) (by simp [go_sem])
  have hb23 : Below w2.heap.size w2 w3 := (((Below.refl _ _).alloc (Nat.le_refl _) _).alloc (by simp) _).trans (hb3.mono (by simp; omega))
  have hB3 := hB2.trans (hb23.mono hB2.size)
  have row3 := rangeAt_below r2 hb23 (by omega)
  have cx3 := (hb23.cell (p := ⟨w.heap.size + 1, 0, none⟩) hlt2).trans cx2
  have hz3 : w2.heap.size + 1 + 1 < w3.heap.size := by have := HB3.out.1; simpa using this
  have hxs : itW s.data.toList = wordsL s.data.toList := itW_words ht
  obtain ⟨ws, hws⟩ := words_sub ht
  have hwn : ws.length ≤ 61 := by have h1 := congrArg List.length hws; rw [List.length_map, hxs] at h1; have := words_len ht; omega
  have hws' : wds ws = wordsL s.data.toList := hws.trans hxs
  apply words_range s ws hws (by have := (vtext_true.1 ht).1; simp at this; omega) (w2.heap.size + 1 + 1) rfl (by simpa using HB3.out.1) (by simpa using HB3.out.2) rfl
    (fun pre W => ((((W.cell? ⟨w2.heap.size, 0, none⟩ = some (.int .i64 pre.length) ∧ W.frozen? ⟨w2.heap.size, 0, none⟩ = false) ∧ (W.cell? ⟨w2.heap.size + 1, 0, none⟩ = some (.int .i64 (endFrom F 0 (wds pre))) ∧ W.frozen? ⟨w2.heap.size + 1, 0, none⟩ = false)) ∧ W.cell? ⟨w.heap.size + 1, 0, none⟩ = some (.int .i64 x0)) ∧ W.rangeAt w.heap.size 0 (fc F (.slice A F.ps.length c))) ∧ lfL F (wds pre) x0 = pre.length ∧ Below w.heap.size w W)
    (fun cd pre W => cd = .exit 0 ∧ (∃ n, W.cell? ⟨w2.heap.size, 0, none⟩ = some (.int .i64 ((n : Nat) : Int)) ∧ ∀ r, lfL F (wds pre ++ r) x0 = n) ∧ Below w.heap.size w W) ?hI ?hIx ⟨⟨⟨⟨⟨c8, f8⟩, ⟨c9, f9⟩⟩, cx3⟩, row3⟩, rfl, hB3⟩
  case hI => exact OwnFrom.and (OwnFrom.and (OwnFrom.and (OwnFrom.and own_cell own_cell) (Own.from (fun s A B row hs hg hr => cell_kept hs hg hr) _)) own_row) (OwnFrom.and (fun _ _ _ _ hs _ _ => hs) (ownB_below (Nat.le_refl _) hB3.size))
  case hIx => exact fun cd => OwnFrom.and (fun _ _ _ _ hs _ _ => hs) (OwnFrom.and (Own.from (fun s A B row ⟨n, h1, h2⟩ hg hr => ⟨n, cell_kept h1 hg hr, h2⟩) _) (ownB_below (Nat.le_refl _) hB3.size))
  case hassign =>
    intro l x W K hK
    gi_wp2
    exact hK
  case hstop =>
    rintro D cd pre W hD hpre ⟨rfl, ⟨n, hc, hn⟩, hB⟩ hK
    obtain ⟨r, hr⟩ := hpre
    have hfin : (lfL F (wordsL s.data.toList) x0 : Int) = n := by
      rw [← hws', ← hr]; unfold wds; rw [List.map_append]; exact congrArg Int.ofNat (hn _)
    have HFIN := hide hfin
    clear hn hfin hr
    gi_wp2
    have hbs3 := hB3.size
    refine ⟨by simp, .inl ⟨_, _, rfl, run_takeDeferred hK, ?_⟩⟩
    refine ⟨_, results_tmp2 rfl _ _ _, ?_, hB.trans (belowK_b (w := w) (Nat.le_refl _) W D _ _ (by omega) hK rfl rfl)⟩
    exact ret_ii HFIN.out.symm rfl
  case hbody =>
    rintro l pre x W ⟨⟨⟨⟨⟨d8, g8⟩, ⟨d9, g9⟩⟩, hcx⟩, hrow⟩, hfit, hB⟩ hlen
    have hx := wideL_bd hF hv x.2.2 x.2.1
    have hE := endFrom_bd hF hv pre (by omega)
    obtain ⟨sp1, sp2⟩ := sp_bd hv
    have e6 := IntWalk.i64_in (endFrom F 0 (wds pre) + wideL F x.1) ⟨by omega, by omega⟩
    have e7 := IntWalk.i64_in F.sp ⟨by omega, by omega⟩
    have e8 := IntWalk.i64_in (endFrom F 0 (wds pre) + wideL F x.1 + F.sp) ⟨by omega, by omega⟩
    have e9 := IntWalk.i64_in ((pre.length : Int) + 1) ⟨by omega, by omega⟩
    have HWW := hide (fun W' => wordWide_any F hF A c ⟨x.1.toArray⟩ W' hv x.2.2 (by simpa [ByteArray.size] using x.2.1))
    have hA' : PairsAt W W.heap.size A F.ps := (hA.below hB).mono hB.size
    have hltB := World.block_lt_of_cell? W _ d9
    simp only at hltB
    have hcO := Over.get d9
    have HROW := hide (over_row hrow (by omega))
    have HL := hide (wds_len pre)
    have HST := hide (fun (h : endFrom F 0 (wds pre) + wideL F x.1 ≤ x0) => lfL_step (F := F) (ws := wds pre) (x := x0) (y := x.1) (by rw [HL.out]; exact hfit) (by rw [← endFrom_wds]; exact h))
    have HSP := hide (fun (h : x0 < endFrom F 0 (wds pre) + wideL F x.1) (r : List (List UInt8)) => lfL_stop (F := F) (ws := wds pre) (r := r) (x := x0) (y := x.1) (by rw [HL.out]; exact hfit) (by rw [← endFrom_wds]; exact h))
    have HEF := hide (endFrom_snoc F (wds pre) 0 x.1)
    clear hfit
    gi_wp2
    refine wpIn_region_over_tail 5 (by kernel_rfl) (by kernel_rfl) (by kernel_rfl) ?_
    repeat (first | (refine wpQuietIn_load_row rfl 32 (.tmp 3) rfl _ 0 rfl _ _ HROW.out Try.underlying32 rfl HII.out ?_; simp only [Act.put, List.setIfInBounds_toArray, List.set_cons_zero, List.set_cons_succ]) | (refine wpQuietIn_step (fun _ _ _ _ => trivial) (fun K hK => ?_); go_simp; (first | (refine hK _ ?_; clear hK K) | (apply Exists.intro; refine ⟨fun _ => ?_, hK _ ?_⟩; (gi_at_call 102; exact overIn_call (CallsIn.inRound l (callsIn_wide.2 (HWW.out _ (hA'.below (Over.h _) |>.mono (Over.size _)))))); clear hK K))))
    refine wpQuietIn_nil ?_
    intro w5 hb5
    have hs5 := hb5.size
    have m8 := (hb5.cell (p := ⟨w2.heap.size, 0, none⟩) (by show w2.heap.size < _; omega)).trans d8
    have m9 := (hb5.cell (p := ⟨w2.heap.size + 1, 0, none⟩) (by show w2.heap.size + 1 < _; omega)).trans d9
    have mx := (hb5.cell (p := ⟨w.heap.size + 1, 0, none⟩) (by show w.heap.size + 1 < _; omega)).trans hcx
    have n8 := frozen_below (B := w2.heap.size) hb5 (by omega) g8
    have n9 := frozen_below (B := w2.heap.size + 1) hb5 (by omega) g9
    have row5 := rangeAt_below hrow hb5 (by omega)
    have hB5 := hB.trans (hb5.mono hB.size)
    have hk5 : KeepsOthers W w5 := keeps_below hb5
    have x26 := rangeAt_cell row5 (fc_sp hF.len _)
    clear hcO HROW hA' HWW d8 d9 g8 g9 hcx hrow hb5 e6
    generalize wideL F x.1 = T at *
    generalize endFrom F 0 (wds pre) = E at *
    have nx : w2.heap.size + 1 ≠ w.heap.size := by omega
    have nx1 : w2.heap.size + 1 ≠ w.heap.size + 1 := by omega
    by_cases hw : E + T ≤ x0
    · have HSTEP := hide (HST.out hw)
      have hw' : ¬ x0 < E + T := by omega
      clear HST HSP
      gi_wp2
      have hk := ((hk5.trans (KeepsOthers.setCell w5 ⟨w2.heap.size + 1, 0, none⟩ (.int .i64 (E + T)))).trans (KeepsOthers.setCell _ ⟨w2.heap.size, 0, none⟩ (.int .i64 ((pre.length : Int) + 1)))).trans (KeepsOthers.setCell _ ⟨w2.heap.size + 1, 0, none⟩ (.int .i64 (E + T + F.sp)))
      refine ⟨hk, hk.walks, ⟨⟨⟨⟨?_, ?_⟩, ⟨?_, ?_⟩⟩, ?_⟩, ?_⟩, ?_, (((hB5.setCell (p := ⟨w2.heap.size + 1, 0, none⟩) (by show _ ≤ w2.heap.size + 1; omega) _).setCell (p := ⟨w2.heap.size, 0, none⟩) (by show _ ≤ w2.heap.size; omega) _).setCell (p := ⟨w2.heap.size + 1, 0, none⟩) (by show _ ≤ w2.heap.size + 1; omega) _)⟩
      · rw [List.length_append, World.cell?_setCell_other _ _ _ _ (by intro h; injection h with h _; omega)]; exact World.cell?_setCell_same' _ _ _ (by rw [World.cell?_setCell_other _ _ _ _ (by intro h; injection h with h _; omega), m8]; rfl)
      · rw [World.frozen?_setCell, World.frozen?_setCell, World.frozen?_setCell]; exact n8
      · rw [wds_snoc, HEF.out]; exact World.cell?_setCell_same' _ _ _ (by rw [World.cell?_setCell_other _ _ _ _ (by intro h; injection h with h _; omega), World.cell?_setCell_same' _ _ _ (by rw [m9]; rfl)]; rfl)
      · rw [World.frozen?_setCell, World.frozen?_setCell, World.frozen?_setCell]; exact n9
      · rw [World.cell?_setCell_other _ _ _ _ (by intro h; injection h with h _; omega), World.cell?_setCell_other _ _ _ _ (by intro h; injection h with h _; omega), World.cell?_setCell_other _ _ _ _ (by intro h; injection h with h _; omega)]; exact mx
      · exact rangeAt_far (rangeAt_far (rangeAt_far row5 (by show w2.heap.size + 1 ≠ _; omega) _) (by show w2.heap.size ≠ _; omega) _) (by show w2.heap.size + 1 ≠ _; omega) _
      · rw [wds_snoc, HSTEP.out, List.length_append, List.length_append, HL.out]; rfl
    · have HSTEP := hide (HSP.out (by omega))
      have hw' : x0 < E + T := by omega
      clear HST HSP
      gi_wp2
      refine ⟨hk5.trans (KeepsOthers.setCell w5 ⟨w2.heap.size + 1, 0, none⟩ (.int .i64 (E + T))), rfl, ⟨pre.length, ?_, fun r => ?_⟩, (hB5.setCell (p := ⟨w2.heap.size + 1, 0, none⟩) (by show _ ≤ w2.heap.size + 1; omega) _)⟩
      · rw [World.cell?_setCell_other _ _ _ _ (by intro h; injection h with h _; omega)]; exact m8
      · rw [wds_snoc, HSTEP.out, HL.out]
  case hdone =>
    rintro D W hD ⟨⟨⟨⟨⟨d8, g8⟩, ⟨d9, g9⟩⟩, hcx⟩, hrow⟩, hfit, hB⟩ hK
    have hfin : (lfL F (wordsL s.data.toList) x0 : Int) = ws.length := by rw [← hws']; exact congrArg Int.ofNat hfit
    have HFIN := hide hfin
    clear hfit hfin
    gi_wp2
    have hbs3 := hB3.size
    refine ⟨by simp, .inl ⟨_, _, rfl, run_takeDeferred hK, ?_⟩⟩
    refine ⟨_, results_tmp2 rfl _ _ _, ?_, hB.trans (belowK_b (w := w) (Nat.le_refl _) W D _ _ (by omega) hK rfl rfl)⟩
    exact ret_ii HFIN.out.symm rfl

set_option maxRecDepth 100000 in
set_option maxHeartbeats 4000000 in
theorem implLongestFit_any (F : Fc) (hF : F.ok) (A : Option Addr) (c : Nat) (s : ByteArray) (hs : s.size ≤ maxLen) (x : Int) (hx : (Lit.int .i64 x).wf = true) (w : World) (hA : PairsAt w w.heap.size A F.ps) :
    Calls Try.prog 43 #[.agg (fc F (.slice A F.ps.length c)).toArray, .string s, .int .i64 x] w fun e w' => e = .returned (.tuple #[.int .i64 (lfV F s.data.toList x), .int .i64 (askC F s.data.toList (inB x 0 4000))]) ∧ Below w.heap.size w w' := by
  have hW := hide hF.len
  have hr := rangeAt_new w (fc F (.slice A F.ps.length c)) 32
  have hb : Below w.heap.size w (w.alloc (.cells (fc F (.slice A F.ps.length c)).toArray 32)) := (Below.refl _ _).alloc (Nat.le_refl _) _
  have hs0 : w.heap.size < (w.alloc (.cells (fc F (.slice A F.ps.length c)).toArray 32)).heap.size := by simp
  have hbx : Below (w.alloc (.cells (fc F (.slice A F.ps.length c)).toArray 32)).heap.size (w.alloc (.cells (fc F (.slice A F.ps.length c)).toArray 32)) ((w.alloc (.cells (fc F (.slice A F.ps.length c)).toArray 32)).alloc (.cells #[.int .i64 x] 2)) := (Below.refl _ _).alloc (Nat.le_refl _) _
  have hr1 := rangeAt_below hr hbx hs0
  have hb1 := hb.trans (hbx.mono hb.size)
  have cx1 : ((w.alloc (.cells (fc F (.slice A F.ps.length c)).toArray 32)).alloc (.cells #[.int .i64 x] 2)).cell? ⟨w.heap.size + 1, 0, none⟩ = some (.int .i64 x) := by simp [go_sem]
  have hsx : ((w.alloc (.cells (fc F (.slice A F.ps.length c)).toArray 32)).alloc (.cells #[.int .i64 x] 2)).heap.size = w.heap.size + 1 + 1 := by simp
  have HC := hide (implValidFace_any F hF A c _ ((hA.below hb1).mono hb1.size))
  have HII := hide (show ∀ sl, (Try.prog.info? 32).map (·.size) = some (fc F sl).length from fun sl => by rw [fc_length hW.out]; kernel_rfl)
  have HWo := hide (fun w => implValidText_any s w hs)
  have HOKK := hide (fun hv ht hi => implLongest_ok F hF A c s hs x w hA hv ht hi)
  rcases ask_cases F s.data.toList x with ⟨hv, ht, hi, h4⟩ | ⟨h4, hv, ht, hi⟩ | ⟨h4, h⟩
  · have p1 : lfV F s.data.toList x = (lfL F (wordsL s.data.toList) x : Int) := by unfold lfV; rw [if_pos h4]
    rw [p1, h4]
    exact HOKK.out hv ht hi
  · have p1 : lfV F s.data.toList x = 0 := by unfold lfV; rw [h4, if_neg (by decide)]
    rw [p1, h4]
    have HIN := hide hi
    clear hA p1 h4 hi HOKK
    go_enter Try.func43, Try.ntmps43
    go_wp2_with (refine wpList_load_mid rfl 32 (.tmp 3) rfl _ 0 rfl _ _ hr1 Try.underlying32 rfl (HII.out _) ?_)
    refine HC.out.mono ?_
    rintro e w1 ⟨rfl, hbb1⟩
    simp only [hv]
    go_wp2_with fail
    refine (HWo.out _).mono ?_
    rintro e w2 ⟨rfl, hbb2⟩
    simp only [ht]
    have hB := hbb1.trans (hbb2.mono hbb1.size)
    have cx2 := (hB.cell (p := ⟨w.heap.size + 1, 0, none⟩) (by rw [hsx]; show w.heap.size + 1 < _; omega)).trans cx1
    clear hr hr1 cx1
    go_wp2_with (go_at_call 107; refine (validWide_any _ _).mono ?_; rintro e w' ⟨rfl, rfl⟩; rw [HIN.out])
    go_ret2
    exact ⟨rfl, hb1.trans (hB.mono hb1.size)⟩
  · have p1 : lfV F s.data.toList x = 0 := by unfold lfV; rw [h4, if_neg (by decide)]
    rw [p1, h4]
    clear hA p1 h4 HOKK
    cases hv : vface F
    · go_enter Try.func43, Try.ntmps43
      go_wp2_with (first | (refine wpList_load_mid rfl 32 (.tmp 3) rfl _ 0 rfl _ _ hr1 Try.underlying32 rfl (HII.out _) ?_) | (go_at_call 87; refine HC.out.mono ?_; rintro e w1 ⟨rfl, hbb1⟩; simp only [hv]))
      go_ret2
      exact ⟨rfl, hb1.trans (hbb1.mono hb1.size)⟩
    · have ht : vtext s.data.toList = false := by cases h' : vtext s.data.toList with | false => rfl | true => exact (h ⟨hv, h'⟩).elim
      go_enter Try.func43, Try.ntmps43
      go_wp2_with (first | (refine wpList_load_mid rfl 32 (.tmp 3) rfl _ 0 rfl _ _ hr1 Try.underlying32 rfl (HII.out _) ?_) | (go_at_call 87; refine HC.out.mono ?_; rintro e w1 ⟨rfl, hbb1⟩; simp only [hv]) | (go_at_call 98; refine (HWo.out _).mono ?_; rintro e w2 ⟨rfl, hbb2⟩; simp only [ht]))
      go_ret2
      exact ⟨rfl, hb1.trans ((hbb1.trans (hbb2.mono hbb1.size)).mono hb1.size)⟩
end Go.Proofs.Ytikndeloeeppaaa
