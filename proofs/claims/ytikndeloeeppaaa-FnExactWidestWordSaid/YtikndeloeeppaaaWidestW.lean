/- WidestWord of the program. -/
import Derived.Test.YtikndeloeeppaaaWidestS
import Derived.Test.YtikndeloeeppaaaSpansW
namespace Go.Proofs.Ytikndeloeeppaaa
open Go Go.RowKit Go.Shelf Go.Sort
attribute [local go_sem] Oper.semAt_some

theorem wiTo_app (F : Fc) (ws : List (List UInt8)) (y : List UInt8) : ∀ k, k ≤ ws.length → wiTo F (ws ++ [y]) k = wiTo F ws k
  | 0, _ => rfl
  | k + 1, hk => by
    have e : (ws ++ [y]).getD k [] = ws.getD k [] := by
      rw [List.getD_eq_getElem?_getD, List.getD_eq_getElem?_getD, List.getElem?_append_left (by omega)]
    rw [wiTo, wiTo, wiTo_app F ws y k (by omega), e]
def wiL (F : Fc) (ws : List (List UInt8)) : Nat × Int := wiTo F ws ws.length
theorem wiL_next {F : Fc} {ws : List (List UInt8)} {y : List UInt8} (h : (wiL F ws).2 < wideL F y) : wiL F (ws ++ [y]) = (ws.length, wideL F y) := by
  have e : (ws ++ [y]).getD ws.length [] = y := by simp
  unfold wiL at *
  rw [List.length_append, List.length_singleton, wiTo_next (by rw [e, wiTo_app F ws y _ (Nat.le_refl _)]; exact h), e]
theorem wiL_same {F : Fc} {ws : List (List UInt8)} {y : List UInt8} (h : ¬ (wiL F ws).2 < wideL F y) : wiL F (ws ++ [y]) = wiL F ws := by
  have e : (ws ++ [y]).getD ws.length [] = y := by simp
  unfold wiL at *
  rw [List.length_append, List.length_singleton, wiTo_same (by rw [e, wiTo_app F ws y _ (Nat.le_refl _)]; exact h), wiTo_app F ws y _ (Nat.le_refl _)]

set_option maxRecDepth 100000 in
set_option maxHeartbeats 8000000 in
theorem implWidest_ok (F : Fc) (hF : F.ok) (A : Option Addr) (c : Nat) (s : ByteArray) (hs : s.size ≤ maxLen) (w : World) (hA : PairsAt w w.heap.size A F.ps) (hv : vface F = true) (ht : vtext s.data.toList = true) (hne : s.data.toList ≠ []) :
    Calls Try.prog 37 #[.agg (fc F (.slice A F.ps.length c)).toArray, .string s] w fun e w' => e = .returned (.tuple #[.int .i64 (wiL F (wordsL s.data.toList)).1, .int .i64 (wiL F (wordsL s.data.toList)).2, .int .i64 0]) ∧ Below w.heap.size w w' := by
  refine (callsIn_wide (n := 4)).1 ?_
  refine callsIn_of_wp_marks Try.func37 rfl trivial ?_ rfl
  simp only [Try.ntmps37, List.size_toArray, List.length_cons, List.length_nil, Nat.reduceAdd, Nat.reduceSub, Array.replicate_succ, Array.replicate_zero, List.push_toArray, List.append_toArray, List.nil_append, List.cons_append]
  have r0 := rangeAt_new w (fc F (.slice A F.ps.length c)) 32
  have hBw : Below w.heap.size w (w.alloc (.cells (fc F (.slice A F.ps.length c)).toArray 32)) := (Below.refl _ _).alloc (Nat.le_refl _) _
  have hs0 : w.heap.size < (w.alloc (.cells (fc F (.slice A F.ps.length c)).toArray 32)).heap.size := by simp
  have HII := hide (show (Try.prog.info? 32).map (·.size) = some (fc F (.slice A F.ps.length c)).length by rw [fc_length hF.len]; kernel_rfl)
  have HC := hide (implValidFace_any F hF A c _ ((hA.below hBw).mono hBw.size))
  have HWo := hide (fun w => implValidText_any s w hs)
  have hse : s.toList.isEmpty = false := toList_cons (fun e => hne (List.length_eq_zero_iff.1 (by simpa using e)))
  have mixed : Try.prog.follows .mixedOrders = true := by kernel_rfl
  gi_wp2_with (refine wpListIn_load_mid rfl 32 (.tmp 2) rfl _ 0 rfl _ _ r0 Try.underlying32 rfl HII.out ?_)
  generalize w.alloc (.cells (fc F (.slice A F.ps.length c)).toArray 32) = W0 at *
  refine ⟨trivial, ?_⟩
  gi_at_call 87
  refine (callsIn_wide.2 HC.out).mono ?_
  rintro e w1 ⟨rfl, hb1⟩
  simp only [hv]
  gi_wp2
  refine ⟨trivial, ?_⟩
  refine (callsIn_wide.2 (HWo.out _)).mono ?_
  rintro e w2 ⟨rfl, hb2⟩
  simp only [ht]
  have hB2 := hBw.trans ((hb1.trans (hb2.mono hb1.size)).mono hBw.size)
  have r2 := rangeAt_below r0 (hb1.trans (hb2.mono hb1.size)) hs0
  have hlt2 : w.heap.size < w2.heap.size := Nat.lt_of_lt_of_le hs0 (hb1.trans (hb2.mono hb1.size)).size
  clear r0 hb1 hb2 HC HWo
  gi_wp2_with (refine ⟨trivial, ?_⟩; gi_at_call 101; refine (callsIn_wide.2 (wordsIn_any s _)).mono ?_; rintro e w3 ⟨rfl, HB3, hb3⟩)
  have hs3 := hb3.size
  have c7 : w3.cell? ⟨w2.heap.size, 0, none⟩ = some (.int .i64 0) := (hb3.cell (p := ⟨w2.heap.size, 0, none⟩) (by simp <;> omega)).trans (by simp [go_sem])
  have f7 : w3.frozen? ⟨w2.heap.size, 0, none⟩ = false := frozen_below hb3 (by simp <;> omega) (by simp [go_sem])
  have c8 : w3.cell? ⟨w2.heap.size + 1, 0, none⟩ = some (.int .i64 0) := (hb3.cell (p := ⟨w2.heap.size + 1, 0, none⟩) (by simp <;> omega)).trans (by simp [go_sem])
  have f8 : w3.frozen? ⟨w2.heap.size + 1, 0, none⟩ = false := frozen_below hb3 (by simp <;> omega) (by simp [go_sem])
  have c9 : w3.cell? ⟨w2.heap.size + 1 + 1, 0, none⟩ = some (.int .i64 0) := (hb3.cell (p := ⟨w2.heap.size + 1 + 1, 0, none⟩) (by simp <;> omega)).trans (by simp [go_sem])
  have f9 : w3.frozen? ⟨w2.heap.size + 1 + 1, 0, none⟩ = false := frozen_below hb3 (by simp <;> omega) (by simp [go_sem])
  have hb23 : Below w2.heap.size w2 w3 := ((((Below.refl _ _).alloc (Nat.le_refl _) _).alloc (by simp) _).alloc (by simp; omega) _).trans (hb3.mono (by simp; omega))
  have hB3 := hB2.trans (hb23.mono hB2.size)
  have row3 := rangeAt_below r2 hb23 hlt2
  have hz3 : w2.heap.size + 1 + 1 + 1 < w3.heap.size := by have := HB3.out.1; simpa using this
  have hxs : itW s.data.toList = wordsL s.data.toList := itW_words ht
  obtain ⟨ws, hws⟩ := words_sub ht
  have hwn : ws.length ≤ 61 := by have h1 := congrArg List.length hws; rw [List.length_map, hxs] at h1; have := words_len ht; omega
  have hws' : wds ws = wordsL s.data.toList := hws.trans hxs
  apply words_range s ws hws (by have := (vtext_true.1 ht).1; simp at this; omega) (w2.heap.size + 1 + 1 + 1) rfl (by simpa using HB3.out.1) (by simpa using HB3.out.2) rfl
    (fun pre W => ((((W.cell? ⟨w2.heap.size, 0, none⟩ = some (.int .i64 pre.length) ∧ W.frozen? ⟨w2.heap.size, 0, none⟩ = false) ∧ (W.cell? ⟨w2.heap.size + 1, 0, none⟩ = some (.int .i64 (wiL F (wds pre)).2) ∧ W.frozen? ⟨w2.heap.size + 1, 0, none⟩ = false)) ∧ (W.cell? ⟨w2.heap.size + 1 + 1, 0, none⟩ = some (.int .i64 (wiL F (wds pre)).1) ∧ W.frozen? ⟨w2.heap.size + 1 + 1, 0, none⟩ = false)) ∧ W.rangeAt w.heap.size 0 (fc F (.slice A F.ps.length c))) ∧ Below w.heap.size w W)
    (fun _ _ _ => False) (OwnFrom.and (OwnFrom.and (OwnFrom.and (OwnFrom.and own_cell own_cell) own_cell) own_row) (ownB_below (Nat.le_refl _) hB3.size)) (fun _ _ _ _ _ hs _ _ => hs) ⟨⟨⟨⟨⟨c7, f7⟩, ⟨c8, f8⟩⟩, ⟨c9, f9⟩⟩, row3⟩, hB3⟩
  case hassign =>
    intro l x W K hK
    gi_wp2
    exact hK
  case hstop =>
    rintro D c pre W _ _ h _
    exact h.elim
  case hbody =>
    rintro l pre x W ⟨⟨⟨⟨⟨d7, g7⟩, ⟨d8, g8⟩⟩, ⟨d9, g9⟩⟩, hrow⟩, hB⟩ hlen
    have hx := wideL_bd hF hv x.2.2 x.2.1
    have HWW := hide (fun W' => wordWide_any F hF A c ⟨x.1.toArray⟩ W' hv x.2.2 (by simpa [ByteArray.size] using x.2.1))
    have hA' : PairsAt W W.heap.size A F.ps := (hA.below hB).mono hB.size
    have hltB := World.block_lt_of_cell? W _ d9
    simp only at hltB
    gi_wp2_with (refine wpListIn_load_mid rfl 32 (.tmp 2) rfl w.heap.size 0 rfl _ _ hrow Try.underlying32 rfl HII.out ?_)
    refine ⟨trivial, ?_⟩
    gi_at_call 102
    refine (CallsIn.inRound l (callsIn_wide.2 (HWW.out _ hA'))).mono ?_
    rintro e w4 ⟨rfl, hb4⟩
    have k7 := (hb4.cell (p := ⟨w2.heap.size, 0, none⟩) (by show w2.heap.size < _; omega)).trans d7
    have k8 := (hb4.cell (p := ⟨w2.heap.size + 1, 0, none⟩) (by show w2.heap.size + 1 < _; omega)).trans d8
    have k9 := (hb4.cell (p := ⟨w2.heap.size + 1 + 1, 0, none⟩) hltB).trans d9
    have q7 := frozen_below (B := w2.heap.size) hb4 (by omega) g7
    have q8 := frozen_below (B := w2.heap.size + 1) hb4 (by omega) g8
    have q9 := frozen_below (B := w2.heap.size + 1 + 1) hb4 (by omega) g9
    have row4 := rangeAt_below hrow hb4 (by omega)
    have hB4 := hB.trans (hb4.mono hB.size)
    have hk4 : KeepsOthers W w4 := keeps_below hb4
    have HNX := hide (fun h => wiL_next (F := F) (ws := wds pre) (y := x.1) h)
    have HSM := hide (fun h => wiL_same (F := F) (ws := wds pre) (y := x.1) h)
    have hs4 := hb4.size
    have hpl := wds_len pre
    have HLEN := hide hpl
    have e7 := IntWalk.i64_in ((pre.length : Int) + 1) ⟨by omega, by omega⟩
    clear d7 d8 d9 g7 g8 g9 hrow hb4 HWW hA' hpl
    generalize wideL F x.1 = T at *
    generalize hR : wiL F (wds pre) = R at *
    obtain ⟨bi, bm⟩ := R
    dsimp only at *
    by_cases hw : bm < T
    · have HSTEP := hide (HNX.out hw)
      clear HNX HSM hR
      have hc8 := Over.get k8
      have hc7 := Over.get k7
      gi_wp2
      have n87 : w2.heap.size + 1 ≠ w2.heap.size := by omega
      gi_region
      all_goals
        clear hc7 hc8
        gi_wp2
        have hk := (((hk4.trans (KeepsOthers.setCell w4 ⟨w2.heap.size + 1, 0, none⟩ (.int .i64 T))).trans (KeepsOthers.setCell _ ⟨w2.heap.size + 1 + 1, 0, none⟩ (.int .i64 (pre.length : Int)))).trans (KeepsOthers.setCell _ ⟨w2.heap.size, 0, none⟩ (.int .i64 ((pre.length : Int) + 1)))).trans (KeepsOthers.drew _)
        refine ⟨hk, hk.walks, ⟨⟨⟨⟨?_, ?_⟩, ⟨?_, ?_⟩⟩, ⟨?_, ?_⟩⟩, ?_⟩, (((hB4.setCell (p := ⟨w2.heap.size + 1, 0, none⟩) (by show _ ≤ w2.heap.size + 1; omega) _).setCell (p := ⟨w2.heap.size + 1 + 1, 0, none⟩) (by show _ ≤ w2.heap.size + 1 + 1; omega) _).setCell (p := ⟨w2.heap.size, 0, none⟩) (by show _ ≤ w2.heap.size; omega) _).drew⟩
        · rw [World.cell?_drew, List.length_append]; exact World.cell?_setCell_same' _ _ _ (by rw [World.cell?_setCell_other _ _ _ _ (by intro h; injection h with h _; omega), World.cell?_setCell_other _ _ _ _ (by intro h; injection h with h _; omega), k7]; rfl)
        · rw [World.frozen?_drew, World.frozen?_setCell, World.frozen?_setCell, World.frozen?_setCell]; exact q7
        · rw [World.cell?_drew, wds_snoc, HSTEP.out, World.cell?_setCell_other _ _ _ _ (by intro h; injection h with h _; omega), World.cell?_setCell_other _ _ _ _ (by intro h; injection h with h _; omega)]; exact World.cell?_setCell_same' _ _ _ (by rw [k8]; rfl)
        · rw [World.frozen?_drew, World.frozen?_setCell, World.frozen?_setCell, World.frozen?_setCell]; exact q8
        · rw [World.cell?_drew, wds_snoc, HSTEP.out, World.cell?_setCell_other _ _ _ _ (by intro h; injection h with h _; omega)]; rw [HLEN.out]; exact World.cell?_setCell_same' _ _ _ (by rw [World.cell?_setCell_other _ _ _ _ (by intro h; injection h with h _; omega), k9]; rfl)
        · rw [World.frozen?_drew, World.frozen?_setCell, World.frozen?_setCell, World.frozen?_setCell]; exact q9
        · exact rangeAt_far (rangeAt_far (rangeAt_far row4 (by show w2.heap.size + 1 ≠ _; omega) _) (by show w2.heap.size + 1 + 1 ≠ _; omega) _) (by show w2.heap.size ≠ _; omega) _
    · have HSTEP := hide (HSM.out hw)
      clear HNX HSM hR
      gi_wp2
      have hk := hk4.trans (KeepsOthers.setCell w4 ⟨w2.heap.size, 0, none⟩ (.int .i64 ((pre.length : Int) + 1)))
      refine ⟨hk, hk.walks, ⟨⟨⟨⟨?_, ?_⟩, ⟨?_, ?_⟩⟩, ⟨?_, ?_⟩⟩, ?_⟩, hB4.setCell (p := ⟨w2.heap.size, 0, none⟩) (by show _ ≤ w2.heap.size; omega) _⟩
      · rw [List.length_append]; exact World.cell?_setCell_same' _ _ _ (by rw [k7]; rfl)
      · rw [World.frozen?_setCell]; exact q7
      · rw [wds_snoc, HSTEP.out, World.cell?_setCell_other _ _ _ _ (by intro h; injection h with h _; omega)]; exact k8
      · rw [World.frozen?_setCell]; exact q8
      · rw [wds_snoc, HSTEP.out, World.cell?_setCell_other _ _ _ _ (by intro h; injection h with h _; omega)]; exact k9
      · rw [World.frozen?_setCell]; exact q9
      · exact rangeAt_far row4 (by show w2.heap.size ≠ _; omega) _
  case hdone =>
    rintro D W hD ⟨⟨⟨⟨⟨d7, g7⟩, ⟨d8, g8⟩⟩, ⟨d9, g9⟩⟩, hrow⟩, hB⟩ hK
    rw [hws'] at d8 d9
    have hc8 := Over.get d8
    have hc9 := Over.get d9
    clear d7 g7 d8 g8 d9 g9 hrow
    gi_wp2
    refine wpIn_region_over (by kernel_rfl) (by kernel_rfl) (by kernel_rfl) ?_
    repeat (refine wpQuietIn_step (fun _ _ _ _ => trivial) (fun K hK => ?_); go_simp; (refine hK _ ?_; clear hK K))
    refine wpQuietIn_nil ?_
    intro w5 hb5
    gi_wp2
    have hs5 := hb5.size
    have hK5 : w5.heap[D]? = some (.deferred (some [])) := (hb5.block D (Array.getElem?_eq_some_iff.1 hK).1).trans hK
    refine ⟨by simp, .inl ⟨_, _, rfl, run_takeDeferred hK5, ?_⟩⟩
    refine ⟨_, results_tmp3 rfl _ _ _, rfl, ?_⟩
    have hbs3 := hB3.size
    exact hB.trans ((hb5.mono hB.size).trans (belowK_b (w := w) (Nat.le_refl _) w5 D _ _ (by omega) hK5 rfl rfl))

set_option maxRecDepth 100000 in
set_option maxHeartbeats 4000000 in
theorem implWidestWord_any (F : Fc) (hF : F.ok) (A : Option Addr) (c : Nat) (s : ByteArray) (hs : s.size ≤ maxLen) (w : World) (hA : PairsAt w w.heap.size A F.ps) :
    Calls Try.prog 37 #[.agg (fc F (.slice A F.ps.length c)).toArray, .string s] w fun e w' => e = .returned (.tuple #[.int .i64 (wiI F s.data.toList), .int .i64 (wiV F s.data.toList), .int .i64 (wiC F s.data.toList)]) ∧ Below w.heap.size w w' := by
  have hW := hide hF.len
  have hr := rangeAt_new w (fc F (.slice A F.ps.length c)) 32
  have hb : Below w.heap.size w (w.alloc (.cells (fc F (.slice A F.ps.length c)).toArray 32)) := (Below.refl _ _).alloc (Nat.le_refl _) _
  have HC := hide (implValidFace_any F hF A c _ ((hA.below hb).mono hb.size))
  have HII := hide (show ∀ sl, (Try.prog.info? 32).map (·.size) = some (fc F sl).length from fun sl => by rw [fc_length hW.out]; kernel_rfl)
  have HWo := hide (fun w => implValidText_any s w hs)
  cases hv : vface F
  · obtain ⟨p1, p2, p3, _⟩ := wi_no (F := F) (L := s.data.toList) (fun e => by rw [hv] at e; cases e.1)
    rw [p1, p2, p3]
    clear hA p1 p2 p3
    go_enter Try.func37, Try.ntmps37
    go_wp2_with (first | (refine wpList_load_mid rfl 32 (.tmp 2) rfl _ 0 rfl _ _ hr Try.underlying32 rfl (HII.out _) ?_) | (go_at_call 87; refine HC.out.mono ?_; rintro e w1 ⟨rfl, hb1⟩; simp only [hv]))
    go_ret3
    exact ⟨rfl, hb.trans (hb1.mono hb.size)⟩
  · cases ht : vtext s.data.toList
    · obtain ⟨p1, p2, p3, _⟩ := wi_no (F := F) (L := s.data.toList) (fun e => by have := e.2; rw [ht] at this; cases this)
      rw [p1, p2, p3]
      clear hA p1 p2 p3
      go_enter Try.func37, Try.ntmps37
      go_wp2_with (first | (refine wpList_load_mid rfl 32 (.tmp 2) rfl _ 0 rfl _ _ hr Try.underlying32 rfl (HII.out _) ?_) | (go_at_call 87; refine HC.out.mono ?_; rintro e w1 ⟨rfl, hb1⟩; simp only [hv]) | (go_at_call 98; refine (HWo.out _).mono ?_; rintro e w2 ⟨rfl, hb2⟩; simp only [ht]))
      go_ret3
      exact ⟨rfl, hb.trans ((hb1.trans (hb2.mono hb1.size)).mono hb.size)⟩
    · by_cases he : s.data.toList = []
      · obtain ⟨p1, p2, p3, _⟩ := wi_empty hv ht he
        rw [p1, p2, p3]
        have hse : s.toList.isEmpty = true := by rw [toList_nil (by simpa using congrArg List.length he)]; rfl
        clear hA p1 p2 p3 he
        go_enter Try.func37, Try.ntmps37
        go_wp2_with (first | (refine wpList_load_mid rfl 32 (.tmp 2) rfl _ 0 rfl _ _ hr Try.underlying32 rfl (HII.out _) ?_) | (go_at_call 87; refine HC.out.mono ?_; rintro e w1 ⟨rfl, hb1⟩; simp only [hv]) | (go_at_call 98; refine (HWo.out _).mono ?_; rintro e w2 ⟨rfl, hb2⟩; simp only [ht]))
        go_ret3
        exact ⟨rfl, hb.trans ((hb1.trans (hb2.mono hb1.size)).mono hb.size)⟩
      · obtain ⟨p1, p2, p3, _⟩ := wi_ok hv ht he
        rw [p1, p2, p3]
        exact implWidest_ok F hF A c s hs w hA hv ht he
end Go.Proofs.Ytikndeloeeppaaa
