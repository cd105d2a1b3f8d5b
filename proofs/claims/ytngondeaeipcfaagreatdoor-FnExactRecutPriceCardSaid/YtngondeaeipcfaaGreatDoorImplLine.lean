/- The program's width of a line. -/
import Derived.Test.YtngondeaeipcfaaGreatDoorG7
import Derived.Test.YtngondeaeipcfaaGreatDoorG6
import Derived.Deep.RegionWith
import Derived.OrdersHeld
import Derived.Test.YtngondeaeipcfaaGreatDoorG1
import Derived.Test.YtngondeaeipcfaaGreatDoorWr
namespace Go.Proofs.YtngondeaeipcfaaGreatDoor
open Go Go.RowKit Go.Shelf Go.Sort
attribute [local go_sem] Oper.semAt_some

theorem splitL_count : ∀ L : List UInt8, (splitL L).length = Lib.countByte L 32 + 1
  | [] => rfl
  | c :: cs => by
    have ih := splitL_count cs
    unfold Lib.countByte at *
    by_cases hc : c = 32
    · subst hc; rw [splitL_32, List.count_cons_self]; simp only [List.length_cons]; omega
    · rw [splitL_other _ hc, List.count_cons_of_ne hc]
      have hne := splitL_ne cs
      cases h : splitL cs with
      | nil => exact (hne h).elim
      | cons a t => rw [h] at ih; simpa [glue] using ih
theorem lineTo_sum (F : Fc) (ws : List (List UInt8)) : ∀ k, k ≤ ws.length → lineTo F ws k = ((ws.take k).map (wideL F)).sum + ((k - 1 : Nat) : Int) * F.sp
  | 0, _ => by simp [lineTo]
  | k + 1, h => by
    have ih := lineTo_sum F ws k (by omega)
    have hg : ws.getD k [] = ws[k]'(by omega) := by rw [List.getD_eq_getElem?_getD, List.getElem?_eq_getElem (by omega)]; rfl
    have ht : ws.take (k + 1) = ws.take k ++ [ws[k]'(by omega)] := by rw [List.take_succ_eq_append_getElem]
    have e1 : lineTo F ws (k + 1) = lineTo F ws k + wideL F (ws.getD k []) + (if k = 0 then 0 else F.sp) := rfl
    rw [e1, ih, hg, ht]
    by_cases hk : k = 0
    · subst hk; simp
    · rw [if_neg hk]
      have e2 : ((k + 1 - 1 : Nat) : Int) = ((k - 1 : Nat) : Int) + 1 := by omega
      rw [e2, Int.add_mul]
      simp only [List.map_append, List.map_cons, List.map_nil, List.sum_append, List.sum_cons, List.sum_nil]
      omega
theorem line_sum (F : Fc) {L : List UInt8} (h : vtext L = true) (ws : List Wd) (hws : ws.map (·.1) = itW L) : lineL F (wordsL L) = (Lib.countByte L 32 : Int) * F.sp + sumW F ws := by
  have e0 : sumW F ws = ((wordsL L).map (wideL F)).sum := by
    unfold sumW; rw [← itW_words h, ← hws, List.map_map]; rfl
  have e1 := lineTo_sum F (wordsL L) (wordsL L).length (Nat.le_refl _)
  rw [List.take_length] at e1
  rw [e0, lineL, e1]
  have e2 : ((wordsL L).length - 1) = Lib.countByte L 32 := by
    unfold wordsL
    split
    · rename_i hn; subst hn; rfl
    · rw [splitL_count]; omega
  rw [e2]; omega
/-- The temporaries of lineWide's first statement. -/
@[reducible] def la (x0 x1 x2 x5 x7 x8 x9 x10 x11 x12 : Value) : Act :=
  { tmps := #[x0, x1, x2, undef, .int .i64 0, x5, undef, x7, x8, x9, x10, x11, x12, undef, undef, undef, undef, undef, undef, undef, undef, undef], defers := [] }

set_option maxRecDepth 100000 in
set_option maxHeartbeats 4000000 in
theorem lineWide_any (F : Fc) (hF : F.ok) (A : Option Addr) (c : Nat) (s : ByteArray) (w : World) (hv : vface F = true) (ht : vtext s.data.toList = true) (hA : PairsAt w w.heap.size A F.ps) :
    Calls Tryz.prog 106 #[.agg (fc F (.slice A F.ps.length c)).toArray, .string s] w fun e w' => e = .returned (.int .i64 (lineL F (wordsL s.data.toList))) ∧ Below w.heap.size w w' := by
  refine (callsIn_wide (n := 4)).1 ?_
  refine callsIn_of_wp_marks Tryz.func106 rfl trivial ?_ rfl
  simp only [Tryz.ntmps106, List.size_toArray, List.length_cons, List.length_nil, Nat.reduceAdd, Nat.reduceSub, Array.replicate_succ, Array.replicate_zero, List.push_toArray, List.append_toArray, List.nil_append, List.cons_append]
  have r0 := rangeAt_new w (fc F (.slice A F.ps.length c)) 28
  have hc26 := rangeAt_cell r0 (fc_sp hF.len _)
  obtain ⟨sp1, sp2⟩ := sp_bd hv
  have e4 := IntWalk.i64_in F.sp ⟨by omega, by omega⟩
  have hcb : Lib.countByte s.data.toList 32 ≤ 60 := Nat.le_trans List.count_le_length (vtext_true.1 ht).1
  have HLS := hide (fun ws hws => line_sum F ht ws hws)
  have HNS := hide (show 0 ≤ (Lib.countByte s.data.toList 32 : Int) * F.sp ∧ (Lib.countByte s.data.toList 32 : Int) * F.sp ≤ 2400 from ⟨Int.mul_nonneg (by omega) (by omega), by have := Int.mul_le_mul (show (Lib.countByte s.data.toList 32 : Int) ≤ 60 by omega) sp2 (by omega) (by omega); omega⟩)
  have mixed : Tryz.prog.follows .mixedOrders = true := by kernel_rfl
  gi_wp2
  have hs0 : w.heap.size < (w.alloc (.cells (fc F (.slice A F.ps.length c)).toArray 28)).heap.size := by simp
  have hsz : (w.alloc (.cells (fc F (.slice A F.ps.length c)).toArray 28)).heap.size = w.heap.size + 1 := by simp
  have HSZ := hide hsz
  clear hsz
  have hBw : Below w.heap.size w (w.alloc (.cells (fc F (.slice A F.ps.length c)).toArray 28)) := (Below.refl _ _).alloc (Nat.le_refl _) _
  have HBW := hide hBw
  have hws0 := hBw.size
  clear hBw
  generalize w.alloc (.cells (fc F (.slice A F.ps.length c)).toArray 28) = W0 at *
  have HCnt := hide (fun w => (Tryz.strings_Count_one s 32 w))
  generalize Lib.countByte s.data.toList 32 = N at HCnt hcb HNS HLS
  have e5 := IntWalk.i64_in ((N : Int) * F.sp) ⟨by have := Int.mul_nonneg (show (0 : Int) ≤ N by omega) (show 0 ≤ F.sp by omega); omega, by have := Int.mul_le_mul (show (N : Int) ≤ 60 by omega) sp2 (by omega) (by omega); omega⟩
  rename_i Q2 K2 HK2
  refine wpIn_mono (Q := Exit.then K2 (fun _ _ _ => False)) ?_ (fun e a w h => by cases e <;> first | exact h | exact h.elim)
  refine wpIn_wide.2 ?_
  suffices HQ : K2 { tmps := #[.agg (fc F (.slice A F.ps.length c)).toArray, .string s, .pointer (some ⟨w.heap.size, 0, none⟩), undef, .int .i64 0, .pointer (some ⟨W0.heap.size, 0, none⟩), undef, .string s, .int .i64 N, .pointer (some ⟨w.heap.size, 26, none⟩), .int .i8 F.sp, .int .i64 F.sp, .int .i64 (N * F.sp), undef, undef, undef, undef, undef, undef, undef, undef, undef], defers := [] } ((W0.alloc (.cells #[.int .i64 (N * F.sp)] 2)).drew) by
    have hS0 : Below W0.heap.size W0 W0.drew := (Below.refl _ _).drew
    refine wp_region_held (S := fun w' => Below W0.heap.size W0 w') mixed ?_
    refine wpAnyH_take (fuel := 7) (i := 0) (v := .string s) rfl (by kernel_rfl) (by kernel_rfl) (by kernel_rfl) (fun _ _ _ h => h) (.inl ⟨by rfl, fun w h => by simp [execOp, go_sem]⟩) hS0 ?_
    refine wpAnyH_take (fuel := 6) (i := 2) (v := .pointer (some ⟨w.heap.size, 26, none⟩)) rfl (by kernel_rfl) (by kernel_rfl) (by kernel_rfl) (fun _ _ _ h => h) (.inl ⟨by rfl, fun w' h => by simp only [Act.put, List.setIfInBounds_toArray, List.set_cons_zero, List.set_cons_succ, List.getElem_toArray, List.getElem_cons_zero, List.getElem_cons_succ]; unfold execOp; go_simp⟩) hS0 ?_
    refine wpAnyH_take (fuel := 5) (i := 3) (v := .int .i8 F.sp) rfl (by kernel_rfl) (by kernel_rfl) (by kernel_rfl) (fun _ _ _ h => h) (.inl ⟨by rfl, fun w' h => by have hc := (h.cell (p := ⟨w.heap.size, 26, none⟩) hs0).trans hc26; simp only [Act.put, List.setIfInBounds_toArray, List.set_cons_zero, List.set_cons_succ, List.getElem_toArray, List.getElem_cons_zero, List.getElem_cons_succ]; unfold execOp; go_simp⟩) hS0 ?_
    refine wpAnyH_take (fuel := 4) (i := 4) (v := .int .i64 F.sp) rfl (by kernel_rfl) (by kernel_rfl) (by kernel_rfl) (fun _ _ _ h => h) (.inl ⟨by rfl, fun w' h => by simp only [Act.put, List.setIfInBounds_toArray, List.set_cons_zero, List.set_cons_succ, List.getElem_toArray, List.getElem_cons_zero, List.getElem_cons_succ]; unfold execOp; go_simp⟩) hS0 ?_
    have hSB : Below W0.heap.size W0 (W0.drew.alloc (.cells #[.int .i64 0] 2)) := hS0.alloc hS0.size _
    have hSF : Below W0.heap.size W0 ((W0.alloc (.cells #[.int .i64 (N * F.sp)] 2)).drew) := ((Below.refl _ _).alloc (Nat.le_refl _) _).drew
    change wpAnyH _ _ _ _ _ (3 + 1) #[true, false, true, true, true, false, false, false] (la (.agg (fc F (.slice A F.ps.length c)).toArray) (.string s) (.pointer (some ⟨w.heap.size, 0, none⟩)) undef (.string s) undef (.pointer (some ⟨w.heap.size, 26, none⟩)) (.int .i8 F.sp) (.int .i64 F.sp) undef) W0.drew
    refine wpAnyH_all (rs := [1, 6]) (by kernel_rfl) (by simp) (fun i hi => ?_)
    have hi' : i = 1 ∨ i = 6 := by simpa using hi
    rcases hi' with rfl | rfl
    · refine wpOp_mono (K := fun a' w' => a' = la (.agg (fc F (.slice A F.ps.length c)).toArray) (.string s) (.pointer (some ⟨w.heap.size, 0, none⟩)) undef (.string s) (.int .i64 N) (.pointer (some ⟨w.heap.size, 26, none⟩)) (.int .i8 F.sp) (.int .i64 F.sp) undef ∧ w' = W0.drew) ?_ (wpOp_of_list rfl ?_)
      · rintro a' w' ⟨rfl, rfl⟩
        refine ⟨hS0, ?_⟩
        refine wpAnyH_take (fuel := 2) (i := 5) (v := (.int .i64 (N * F.sp))) rfl (by kernel_rfl) (by kernel_rfl) (by kernel_rfl) (fun _ _ _ h => h) (.inl ⟨by rfl, fun w' h => by simp only [List.getElem_toArray, List.getElem_cons_zero, List.getElem_cons_succ]; unfold execOp; go_simp⟩) hS0 ?_
        change wpAnyH _ _ _ _ _ (1 + 1) #[true, true, true, true, true, true, false, false] (la (.agg (fc F (.slice A F.ps.length c)).toArray) (.string s) (.pointer (some ⟨w.heap.size, 0, none⟩)) undef (.string s) (.int .i64 N) (.pointer (some ⟨w.heap.size, 26, none⟩)) (.int .i8 F.sp) (.int .i64 F.sp) (.int .i64 (N * F.sp))) W0.drew
        refine wpAnyH_all (rs := [6]) (by kernel_rfl) (by simp) (fun i hi => ?_)
        obtain rfl : i = 6 := by simpa using hi
        refine wpOp_mono (K := fun a' w' => a' = la (.agg (fc F (.slice A F.ps.length c)).toArray) (.string s) (.pointer (some ⟨w.heap.size, 0, none⟩)) (.pointer (some ⟨W0.heap.size, 0, none⟩)) (.string s) (.int .i64 N) (.pointer (some ⟨w.heap.size, 26, none⟩)) (.int .i8 F.sp) (.int .i64 F.sp) (.int .i64 (N * F.sp)) ∧ w' = (W0.drew.alloc (.cells #[.int .i64 0] 2))) ?_ (wpOp_of_list rfl ?_)
        · rintro a' w' ⟨rfl, rfl⟩
          refine ⟨hSB, ?_⟩
          change wpAnyH _ _ _ _ _ (0 + 1) #[true, true, true, true, true, true, true, false] (la (.agg (fc F (.slice A F.ps.length c)).toArray) (.string s) (.pointer (some ⟨w.heap.size, 0, none⟩)) (.pointer (some ⟨W0.heap.size, 0, none⟩)) (.string s) (.int .i64 N) (.pointer (some ⟨w.heap.size, 26, none⟩)) (.int .i8 F.sp) (.int .i64 F.sp) (.int .i64 (N * F.sp))) (W0.drew.alloc (.cells #[.int .i64 0] 2))
          refine wpAnyH_all (rs := [7]) (by kernel_rfl) (by simp) (fun i hi => ?_)
          obtain rfl : i = 7 := by simpa using hi
          refine wpOp_mono (K := fun a' w' => a' = la (.agg (fc F (.slice A F.ps.length c)).toArray) (.string s) (.pointer (some ⟨w.heap.size, 0, none⟩)) (.pointer (some ⟨W0.heap.size, 0, none⟩)) (.string s) (.int .i64 N) (.pointer (some ⟨w.heap.size, 26, none⟩)) (.int .i8 F.sp) (.int .i64 F.sp) (.int .i64 (N * F.sp)) ∧ w' = ((W0.alloc (.cells #[.int .i64 (N * F.sp)] 2)).drew)) ?_ (wpOp_of_list rfl ?_)
          · rintro a' w' ⟨rfl, rfl⟩
            exact ⟨hSF, wpAnyH_done (by kernel_rfl) HQ _⟩
          · go_wp2
            first | exact ⟨trivial, trivial⟩ | exact ⟨trivial, rfl⟩ | exact ⟨rfl, rfl⟩
        · go_wp2
          first | exact ⟨trivial, trivial⟩ | exact ⟨trivial, rfl⟩ | exact ⟨rfl, rfl⟩
      · go_wp2_with (go_at_call 128; refine (HCnt.out _).mono ?_; rintro e w1 ⟨rfl, rfl⟩)
        first | exact ⟨trivial, trivial⟩ | exact ⟨trivial, rfl⟩ | exact ⟨rfl, rfl⟩
    · refine wpOp_mono (K := fun a' w' => a' = la (.agg (fc F (.slice A F.ps.length c)).toArray) (.string s) (.pointer (some ⟨w.heap.size, 0, none⟩)) (.pointer (some ⟨W0.heap.size, 0, none⟩)) (.string s) undef (.pointer (some ⟨w.heap.size, 26, none⟩)) (.int .i8 F.sp) (.int .i64 F.sp) undef ∧ w' = (W0.drew.alloc (.cells #[.int .i64 0] 2))) ?_ (wpOp_of_list rfl ?_)
      · rintro a' w' ⟨rfl, rfl⟩
        refine ⟨hSB, ?_⟩
        change wpAnyH _ _ _ _ _ (2 + 1) #[true, false, true, true, true, false, true, false] (la (.agg (fc F (.slice A F.ps.length c)).toArray) (.string s) (.pointer (some ⟨w.heap.size, 0, none⟩)) (.pointer (some ⟨W0.heap.size, 0, none⟩)) (.string s) undef (.pointer (some ⟨w.heap.size, 26, none⟩)) (.int .i8 F.sp) (.int .i64 F.sp) undef) (W0.drew.alloc (.cells #[.int .i64 0] 2))
        refine wpAnyH_all (rs := [1]) (by kernel_rfl) (by simp) (fun i hi => ?_)
        obtain rfl : i = 1 := by simpa using hi
        refine wpOp_mono (K := fun a' w' => a' = la (.agg (fc F (.slice A F.ps.length c)).toArray) (.string s) (.pointer (some ⟨w.heap.size, 0, none⟩)) (.pointer (some ⟨W0.heap.size, 0, none⟩)) (.string s) (.int .i64 N) (.pointer (some ⟨w.heap.size, 26, none⟩)) (.int .i8 F.sp) (.int .i64 F.sp) undef ∧ w' = (W0.drew.alloc (.cells #[.int .i64 0] 2))) ?_ (wpOp_of_list rfl ?_)
        · rintro a' w' ⟨rfl, rfl⟩
          refine ⟨hSB, ?_⟩
          refine wpAnyH_take (fuel := 1) (i := 5) (v := (.int .i64 (N * F.sp))) rfl (by kernel_rfl) (by kernel_rfl) (by kernel_rfl) (fun _ _ _ h => h) (.inl ⟨by rfl, fun w' h => by simp only [List.getElem_toArray, List.getElem_cons_zero, List.getElem_cons_succ]; unfold execOp; go_simp⟩) hSB ?_
          change wpAnyH _ _ _ _ _ (0 + 1) #[true, true, true, true, true, true, true, false] (la (.agg (fc F (.slice A F.ps.length c)).toArray) (.string s) (.pointer (some ⟨w.heap.size, 0, none⟩)) (.pointer (some ⟨W0.heap.size, 0, none⟩)) (.string s) (.int .i64 N) (.pointer (some ⟨w.heap.size, 26, none⟩)) (.int .i8 F.sp) (.int .i64 F.sp) (.int .i64 (N * F.sp))) (W0.drew.alloc (.cells #[.int .i64 0] 2))
          refine wpAnyH_all (rs := [7]) (by kernel_rfl) (by simp) (fun i hi => ?_)
          obtain rfl : i = 7 := by simpa using hi
          refine wpOp_mono (K := fun a' w' => a' = la (.agg (fc F (.slice A F.ps.length c)).toArray) (.string s) (.pointer (some ⟨w.heap.size, 0, none⟩)) (.pointer (some ⟨W0.heap.size, 0, none⟩)) (.string s) (.int .i64 N) (.pointer (some ⟨w.heap.size, 26, none⟩)) (.int .i8 F.sp) (.int .i64 F.sp) (.int .i64 (N * F.sp)) ∧ w' = ((W0.alloc (.cells #[.int .i64 (N * F.sp)] 2)).drew)) ?_ (wpOp_of_list rfl ?_)
          · rintro a' w' ⟨rfl, rfl⟩
            exact ⟨hSF, wpAnyH_done (by kernel_rfl) HQ _⟩
          · go_wp2
            first | exact ⟨trivial, trivial⟩ | exact ⟨trivial, rfl⟩ | exact ⟨rfl, rfl⟩
        · go_wp2_with (go_at_call 128; refine (HCnt.out _).mono ?_; rintro e w1 ⟨rfl, rfl⟩)
          first | exact ⟨trivial, trivial⟩ | exact ⟨trivial, rfl⟩ | exact ⟨rfl, rfl⟩
      · go_wp2
        first | exact ⟨trivial, trivial⟩ | exact ⟨trivial, rfl⟩ | exact ⟨rfl, rfl⟩
  refine HK2 _ _ ?_
  gi_wp2_with (refine ⟨trivial, ?_⟩; gi_at_call 120; refine (callsIn_wide.2 (wordsIn_any s _)).mono ?_; rintro e w1 ⟨rfl, HB1, hb1⟩)
  have hc5 : W0.heap.size < ((W0.alloc (.cells #[.int .i64 (N * F.sp)] 2)).drew).heap.size := by simp
  have hs1 := hb1.size
  have hB1 : Below w.heap.size w w1 := (HBW.out.trans ((((Below.refl W0.heap.size W0).alloc (Nat.le_refl _) _).drew).mono hws0)).trans (hb1.mono (by simp; omega))
  have hxs : itW s.data.toList = wordsL s.data.toList := itW_words ht
  obtain ⟨ws, hws⟩ := words_sub ht
  have hwn : ws.length ≤ 61 := by have h1 := congrArg List.length hws; rw [List.length_map, hxs] at h1; have := words_len ht; omega
  have cb1 : w1.cell? ⟨W0.heap.size, 0, none⟩ = some (.int .i64 (N * F.sp)) := (hb1.cell (p := ⟨W0.heap.size, 0, none⟩) (by simp)).trans (by simp [go_sem])
  have fb1 : w1.frozen? ⟨W0.heap.size, 0, none⟩ = false := frozen_below hb1 (by simp) (by simp [go_sem])
  have row1 : ∀ j v, (fc F (.slice A F.ps.length c))[j]? = some v → w1.cell? ⟨w.heap.size, j, none⟩ = some v := fun j v hv => (hb1.cell (p := ⟨w.heap.size, j, none⟩) (by simp; omega)).trans (((((Below.refl W0.heap.size W0).alloc (Nat.le_refl _) _).drew).cell (p := ⟨w.heap.size, j, none⟩) hs0).trans (by have h1 := r0 j v hv; rwa [Nat.zero_add] at h1))
  have hit : ((W0.alloc (.cells #[.int .i64 (N * F.sp)] 2)).drew).heap.size = W0.heap.size + 1 := by simp
  have hB1c := HB1.out
  refine wpIn_rangeFunc_ownF (F := Fence.wide) (n := 4) rfl (by omega) (gf := 214) (lb := #[.pointer (some ⟨W0.heap.size + 1, 0, none⟩)]) rfl trivial (enters_of Tryz.func214 (by kernel_rfl) rfl)
    (encs := fun x : Wd => #[encStr x.1]) (Kp := KeepsWalks) (S := fun ys => ys = ws) (Sp := fun pre => pre <+: ws) (N := ws.length) (w0 := w1)
    (fun l J Jx W hW hJ hJx hY h0 => (wordsIter_in (fun x : Wd => x.1) s ws hws (by have := (vtext_true.1 ht).1; simp at this; omega) (4 - 1) (by omega) l (W0.heap.size + 1) J Jx hY W hJ ((hW.cell (p := ⟨W0.heap.size + 1, 0, none⟩) (by simpa using hB1c.1)).trans (by simpa using hB1c.2)) h0))
    walksK_t walksK_b (Below.refl _ _) (fun _ => rfl)
    (fun pre W => ((W.cell? ⟨W0.heap.size, 0, none⟩ = some (.int .i64 (N * F.sp + sumW F pre)) ∧ W.frozen? ⟨W0.heap.size, 0, none⟩ = false) ∧ ∀ j v, (fc F (.slice A F.ps.length c))[j]? = some v → W.cell? ⟨w.heap.size, j, none⟩ = some v) ∧ Below w.heap.size w W)
    (fun _ _ _ => False) ?hI (fun _ _ _ _ _ hs _ _ => hs) ?h0 (fun x => { tmps := #[.agg (fc F (.slice A F.ps.length c)).toArray, .string s, .pointer (some ⟨w.heap.size, 0, none⟩), undef, .int .i64 0, .pointer (some ⟨W0.heap.size, 0, none⟩), encStr x.1, .string s, .int .i64 N, .pointer (some ⟨w.heap.size, 26, none⟩), .int .i8 F.sp, .int .i64 F.sp, .int .i64 (N * F.sp), .string s, .func (.func 214) #[] #[.pointer (some ⟨W0.heap.size + 1, 0, none⟩)], encStr x.1, undef, undef, undef, undef, undef, undef], defers := [] }) ?assign ?body ?done ?stop
  case hI => exact OwnFrom.and (Own.from (fun s A B row hs hg hr => ⟨⟨cell_kept hs.1.1 hg hr, (frozen_kept hs.1.1 hg hr).trans hs.1.2⟩, fun j v hv => cell_kept (hs.2 j v hv) hg hr⟩) _) (ownFrom_below (Nat.le_refl _) hB1.size)
  case h0 => exact ⟨⟨⟨by rw [cb1]; simp [sumW], fb1⟩, row1⟩, hB1⟩
  case assign =>
    intro l x W K hK
    gi_wp2
    exact hK
  case body =>
    rintro l pre x W ⟨⟨⟨hc, hf⟩, hrow⟩, hB⟩ hlen
    have hx := wideL_bd hF hv x.2.2 x.2.1
    have hsb := sumW_bd hF hv pre
    obtain ⟨n1, n2⟩ := HNS.out
    have e6 := IntWalk.i64_in (N * F.sp + sumW F pre + wideL F x.1) ⟨by omega, by omega⟩
    have hR' : W.drew.rangeAt w.heap.size 0 (fc F (.slice A F.ps.length c)) := fun j v hv => by rw [Nat.zero_add]; exact hrow j v hv
    have HWW := hide (fun W' => wordWide_any F hF A c ⟨x.1.toArray⟩ W' hv x.2.2 (by simpa [ByteArray.size] using x.2.1))
    have HII := hide (show (Tryz.prog.info? 28).map (·.size) = some (fc F (.slice A F.ps.length c)).length by rw [fc_length hF.len]; kernel_rfl)
    have hA' : PairsAt W.drew W.drew.heap.size A F.ps := (hA.below hB).mono hB.size
    have hc' : W.drew.cell? ⟨W0.heap.size, 0, none⟩ = some (.int .i64 (N * F.sp + sumW F pre)) := hc
    have hf' : W.drew.frozen? ⟨W0.heap.size, 0, none⟩ = false := hf
    have hlt0 : W0.heap.size < W.drew.heap.size := World.block_lt_of_cell? W.drew _ hc'
    have HEND : ∀ w2, Below W.drew.heap.size W.drew w2 → Exit.inBlock 1 (ownPostK KeepsWalks (fun pre W => ((W.cell? ⟨W0.heap.size, 0, none⟩ = some (.int .i64 (N * F.sp + sumW F pre)) ∧ W.frozen? ⟨W0.heap.size, 0, none⟩ = false) ∧ ∀ j v, (fc F (.slice A F.ps.length c))[j]? = some v → W.cell? ⟨w.heap.size, j, none⟩ = some v) ∧ Below w.heap.size w W) (fun _ _ _ => False) (pre ++ [x]) W) .normal ({ tmps := #[.agg (fc F (.slice A F.ps.length c)).toArray, .string s, .pointer (some ⟨w.heap.size, 0, none⟩), undef, .int .i64 0, .pointer (some ⟨W0.heap.size, 0, none⟩), .string ⟨x.1.toArray⟩, .string s, .int .i64 N, .pointer (some ⟨w.heap.size, 26, none⟩), .int .i8 F.sp, .int .i64 F.sp, .int .i64 (N * F.sp), .string s, .func (.func 214) #[] #[.pointer (some ⟨W0.heap.size + 1, 0, none⟩)], .string ⟨x.1.toArray⟩, .int .i64 (N * F.sp + sumW F pre), .agg (fc F (.slice A F.ps.length c)).toArray, .string ⟨x.1.toArray⟩, .int .i64 (wideL F x.1), .int .i64 (N * F.sp + sumW F pre + wideL F x.1), undef], defers := [] }) (w2.setCell ⟨W0.heap.size, 0, none⟩ (.int .i64 (N * F.sp + sumW F pre + wideL F x.1))) := by
      intro w2 hb2
      have c2 := (hb2.cell (p := ⟨W0.heap.size, 0, none⟩) hlt0).trans hc'
      have f2 := frozen_below hb2 hlt0 hf'
      have hBd : Below w.heap.size w W.drew := hB.drew
      refine ⟨(KeepsOthers.drew W).trans ((KeepsOthers.of_grownBy (row := none) (grown_below hb2) (fun j o h => by cases h)).trans (KeepsOthers.setCell _ _ _)), ((KeepsOthers.drew W).trans ((KeepsOthers.of_grownBy (row := none) (grown_below hb2) (fun j o h => by cases h)).trans (KeepsOthers.setCell _ _ _))).walks, ⟨⟨?_, ?_⟩, fun j v hv => ?_⟩, (hBd.trans (hb2.mono hBd.size)).setCell (p := ⟨W0.heap.size, 0, none⟩) hws0 _⟩
      · rw [sumW_snoc, ← Int.add_assoc]; exact World.cell?_setCell_same' _ _ _ (by rw [c2]; rfl)
      · rw [World.frozen?_setCell]; exact f2
      · rw [World.cell?_setCell_other _ _ _ _ (by intro h; injection h with h _; omega)]
        exact (hb2.cell (p := ⟨w.heap.size, j, none⟩) (by show w.heap.size < W.drew.heap.size; omega)).trans (hrow j v hv)
    clear hx hsb hB hc hf hrow
    gi_wp2
    refine wpIn_region_any mixed ?_
    change wpAnyIn _ _ _ _ _ _ (5 + 1) #[false, false, false, false, false, false] ({ tmps := #[.agg (fc F (.slice A F.ps.length c)).toArray, .string s, .pointer (some ⟨w.heap.size, 0, none⟩), undef, .int .i64 0, .pointer (some ⟨W0.heap.size, 0, none⟩), .string ⟨x.1.toArray⟩, .string s, .int .i64 N, .pointer (some ⟨w.heap.size, 26, none⟩), .int .i8 F.sp, .int .i64 F.sp, .int .i64 (N * F.sp), .string s, .func (.func 214) #[] #[.pointer (some ⟨W0.heap.size + 1, 0, none⟩)], .string ⟨x.1.toArray⟩, undef, undef, undef, undef, undef, undef], defers := [] }) W.drew
    refine wpAnyIn_all (rs := [0, 1, 2]) (by kernel_rfl) (by simp) (fun i hi => ?_)
    have hi' : i = 0 ∨ i = 1 ∨ i = 2 := by simpa using hi
    rcases hi' with rfl | rfl | rfl
    · refine wpOpIn_to rfl (fun a' w' => a' = { tmps := #[.agg (fc F (.slice A F.ps.length c)).toArray, .string s, .pointer (some ⟨w.heap.size, 0, none⟩), undef, .int .i64 0, .pointer (some ⟨W0.heap.size, 0, none⟩), .string ⟨x.1.toArray⟩, .string s, .int .i64 N, .pointer (some ⟨w.heap.size, 26, none⟩), .int .i8 F.sp, .int .i64 F.sp, .int .i64 (N * F.sp), .string s, .func (.func 214) #[] #[.pointer (some ⟨W0.heap.size + 1, 0, none⟩)], .string ⟨x.1.toArray⟩, .int .i64 (N * F.sp + sumW F pre), undef, undef, undef, undef, undef], defers := [] } ∧ w' = W.drew) ?_ ?_
      · gi_wp2
        first | exact ⟨trivial, trivial⟩ | exact ⟨trivial, rfl⟩ | exact ⟨rfl, trivial⟩ | exact ⟨rfl, rfl⟩
      · rintro a' w' ⟨rfl, rfl⟩
        change wpAnyIn _ _ _ _ _ _ (4 + 1) #[true, false, false, false, false, false] ({ tmps := #[.agg (fc F (.slice A F.ps.length c)).toArray, .string s, .pointer (some ⟨w.heap.size, 0, none⟩), undef, .int .i64 0, .pointer (some ⟨W0.heap.size, 0, none⟩), .string ⟨x.1.toArray⟩, .string s, .int .i64 N, .pointer (some ⟨w.heap.size, 26, none⟩), .int .i8 F.sp, .int .i64 F.sp, .int .i64 (N * F.sp), .string s, .func (.func 214) #[] #[.pointer (some ⟨W0.heap.size + 1, 0, none⟩)], .string ⟨x.1.toArray⟩, .int .i64 (N * F.sp + sumW F pre), undef, undef, undef, undef, undef], defers := [] }) W.drew
        refine wpAnyIn_all (rs := [1, 2]) (by kernel_rfl) (by simp) (fun i hi => ?_)
        have hi' : i = 1 ∨ i = 2 := by simpa using hi
        rcases hi' with rfl | rfl
        · refine wpOpIn_to rfl (fun a' w' => a' = { tmps := #[.agg (fc F (.slice A F.ps.length c)).toArray, .string s, .pointer (some ⟨w.heap.size, 0, none⟩), undef, .int .i64 0, .pointer (some ⟨W0.heap.size, 0, none⟩), .string ⟨x.1.toArray⟩, .string s, .int .i64 N, .pointer (some ⟨w.heap.size, 26, none⟩), .int .i8 F.sp, .int .i64 F.sp, .int .i64 (N * F.sp), .string s, .func (.func 214) #[] #[.pointer (some ⟨W0.heap.size + 1, 0, none⟩)], .string ⟨x.1.toArray⟩, .int .i64 (N * F.sp + sumW F pre), .agg (fc F (.slice A F.ps.length c)).toArray, undef, undef, undef, undef], defers := [] } ∧ w' = W.drew) ?_ ?_
          · refine wpListIn_load_mid rfl 28 (.tmp 2) rfl w.heap.size 0 rfl _ _ hR' Tryz.underlying28 rfl HII.out ?_
            exact ⟨rfl, rfl⟩
          · rintro a' w' ⟨rfl, rfl⟩
            change wpAnyIn _ _ _ _ _ _ (3 + 1) #[true, true, false, false, false, false] ({ tmps := #[.agg (fc F (.slice A F.ps.length c)).toArray, .string s, .pointer (some ⟨w.heap.size, 0, none⟩), undef, .int .i64 0, .pointer (some ⟨W0.heap.size, 0, none⟩), .string ⟨x.1.toArray⟩, .string s, .int .i64 N, .pointer (some ⟨w.heap.size, 26, none⟩), .int .i8 F.sp, .int .i64 F.sp, .int .i64 (N * F.sp), .string s, .func (.func 214) #[] #[.pointer (some ⟨W0.heap.size + 1, 0, none⟩)], .string ⟨x.1.toArray⟩, .int .i64 (N * F.sp + sumW F pre), .agg (fc F (.slice A F.ps.length c)).toArray, undef, undef, undef, undef], defers := [] }) W.drew
            refine wpAnyIn_all (rs := [2]) (by kernel_rfl) (by simp) (fun i hi => ?_)
            obtain rfl : i = 2 := by simpa using hi
            refine wpOpIn_to rfl (fun a' w' => a' = { tmps := #[.agg (fc F (.slice A F.ps.length c)).toArray, .string s, .pointer (some ⟨w.heap.size, 0, none⟩), undef, .int .i64 0, .pointer (some ⟨W0.heap.size, 0, none⟩), .string ⟨x.1.toArray⟩, .string s, .int .i64 N, .pointer (some ⟨w.heap.size, 26, none⟩), .int .i8 F.sp, .int .i64 F.sp, .int .i64 (N * F.sp), .string s, .func (.func 214) #[] #[.pointer (some ⟨W0.heap.size + 1, 0, none⟩)], .string ⟨x.1.toArray⟩, .int .i64 (N * F.sp + sumW F pre), .agg (fc F (.slice A F.ps.length c)).toArray, .string ⟨x.1.toArray⟩, undef, undef, undef], defers := [] } ∧ w' = W.drew) ?_ ?_
            · gi_wp2
              first | exact ⟨trivial, trivial⟩ | exact ⟨trivial, rfl⟩ | exact ⟨rfl, trivial⟩ | exact ⟨rfl, rfl⟩
            · rintro a' w' ⟨rfl, rfl⟩
              change wpAnyIn _ _ _ _ _ _ (2 + 1) #[true, true, true, false, false, false] ({ tmps := #[.agg (fc F (.slice A F.ps.length c)).toArray, .string s, .pointer (some ⟨w.heap.size, 0, none⟩), undef, .int .i64 0, .pointer (some ⟨W0.heap.size, 0, none⟩), .string ⟨x.1.toArray⟩, .string s, .int .i64 N, .pointer (some ⟨w.heap.size, 26, none⟩), .int .i8 F.sp, .int .i64 F.sp, .int .i64 (N * F.sp), .string s, .func (.func 214) #[] #[.pointer (some ⟨W0.heap.size + 1, 0, none⟩)], .string ⟨x.1.toArray⟩, .int .i64 (N * F.sp + sumW F pre), .agg (fc F (.slice A F.ps.length c)).toArray, .string ⟨x.1.toArray⟩, undef, undef, undef], defers := [] }) W.drew
              refine wpAnyIn_all (rs := [3]) (by kernel_rfl) (by simp) (fun i hi => ?_)
              obtain rfl : i = 3 := by simpa using hi
              refine wpOpIn_to rfl (fun a' w' => a' = { tmps := #[.agg (fc F (.slice A F.ps.length c)).toArray, .string s, .pointer (some ⟨w.heap.size, 0, none⟩), undef, .int .i64 0, .pointer (some ⟨W0.heap.size, 0, none⟩), .string ⟨x.1.toArray⟩, .string s, .int .i64 N, .pointer (some ⟨w.heap.size, 26, none⟩), .int .i8 F.sp, .int .i64 F.sp, .int .i64 (N * F.sp), .string s, .func (.func 214) #[] #[.pointer (some ⟨W0.heap.size + 1, 0, none⟩)], .string ⟨x.1.toArray⟩, .int .i64 (N * F.sp + sumW F pre), .agg (fc F (.slice A F.ps.length c)).toArray, .string ⟨x.1.toArray⟩, .int .i64 (wideL F x.1), undef, undef], defers := [] } ∧ Below W.drew.heap.size W.drew w') ?_ ?_
              · gi_wp2_with (refine ⟨trivial, ?_⟩; gi_at_call 121; refine (CallsIn.inRound l (callsIn_wide.2 (HWW.out _ hA'))).mono ?_; rintro e w2 ⟨rfl, hb2⟩)
                first | exact ⟨trivial, hb2⟩ | exact ⟨rfl, hb2⟩
              · rintro a' w2 ⟨rfl, hb2⟩
                have c2 := (hb2.cell (p := ⟨W0.heap.size, 0, none⟩) hlt0).trans hc'
                have f2 := frozen_below hb2 hlt0 hf'
                change wpAnyIn _ _ _ _ _ _ (1 + 1) #[true, true, true, true, false, false] ({ tmps := #[.agg (fc F (.slice A F.ps.length c)).toArray, .string s, .pointer (some ⟨w.heap.size, 0, none⟩), undef, .int .i64 0, .pointer (some ⟨W0.heap.size, 0, none⟩), .string ⟨x.1.toArray⟩, .string s, .int .i64 N, .pointer (some ⟨w.heap.size, 26, none⟩), .int .i8 F.sp, .int .i64 F.sp, .int .i64 (N * F.sp), .string s, .func (.func 214) #[] #[.pointer (some ⟨W0.heap.size + 1, 0, none⟩)], .string ⟨x.1.toArray⟩, .int .i64 (N * F.sp + sumW F pre), .agg (fc F (.slice A F.ps.length c)).toArray, .string ⟨x.1.toArray⟩, .int .i64 (wideL F x.1), undef, undef], defers := [] }) w2
                refine wpAnyIn_all (rs := [4]) (by kernel_rfl) (by simp) (fun i hi => ?_)
                obtain rfl : i = 4 := by simpa using hi
                refine wpOpIn_to rfl (fun a' w' => a' = { tmps := #[.agg (fc F (.slice A F.ps.length c)).toArray, .string s, .pointer (some ⟨w.heap.size, 0, none⟩), undef, .int .i64 0, .pointer (some ⟨W0.heap.size, 0, none⟩), .string ⟨x.1.toArray⟩, .string s, .int .i64 N, .pointer (some ⟨w.heap.size, 26, none⟩), .int .i8 F.sp, .int .i64 F.sp, .int .i64 (N * F.sp), .string s, .func (.func 214) #[] #[.pointer (some ⟨W0.heap.size + 1, 0, none⟩)], .string ⟨x.1.toArray⟩, .int .i64 (N * F.sp + sumW F pre), .agg (fc F (.slice A F.ps.length c)).toArray, .string ⟨x.1.toArray⟩, .int .i64 (wideL F x.1), .int .i64 (N * F.sp + sumW F pre + wideL F x.1), undef], defers := [] } ∧ w' = w2) ?_ ?_
                · gi_wp2
                  first | exact ⟨trivial, trivial⟩ | exact ⟨trivial, rfl⟩ | exact ⟨rfl, trivial⟩ | exact ⟨rfl, rfl⟩
                · rintro a' w' ⟨rfl, hw'⟩
                  rw [hw']; clear hw'
                  change wpAnyIn _ _ _ _ _ _ (0 + 1) #[true, true, true, true, true, false] ({ tmps := #[.agg (fc F (.slice A F.ps.length c)).toArray, .string s, .pointer (some ⟨w.heap.size, 0, none⟩), undef, .int .i64 0, .pointer (some ⟨W0.heap.size, 0, none⟩), .string ⟨x.1.toArray⟩, .string s, .int .i64 N, .pointer (some ⟨w.heap.size, 26, none⟩), .int .i8 F.sp, .int .i64 F.sp, .int .i64 (N * F.sp), .string s, .func (.func 214) #[] #[.pointer (some ⟨W0.heap.size + 1, 0, none⟩)], .string ⟨x.1.toArray⟩, .int .i64 (N * F.sp + sumW F pre), .agg (fc F (.slice A F.ps.length c)).toArray, .string ⟨x.1.toArray⟩, .int .i64 (wideL F x.1), .int .i64 (N * F.sp + sumW F pre + wideL F x.1), undef], defers := [] }) w2
                  refine wpAnyIn_all (rs := [5]) (by kernel_rfl) (by simp) (fun i hi => ?_)
                  obtain rfl : i = 5 := by simpa using hi
                  refine wpOpIn_to rfl (fun a' w' => a' = { tmps := #[.agg (fc F (.slice A F.ps.length c)).toArray, .string s, .pointer (some ⟨w.heap.size, 0, none⟩), undef, .int .i64 0, .pointer (some ⟨W0.heap.size, 0, none⟩), .string ⟨x.1.toArray⟩, .string s, .int .i64 N, .pointer (some ⟨w.heap.size, 26, none⟩), .int .i8 F.sp, .int .i64 F.sp, .int .i64 (N * F.sp), .string s, .func (.func 214) #[] #[.pointer (some ⟨W0.heap.size + 1, 0, none⟩)], .string ⟨x.1.toArray⟩, .int .i64 (N * F.sp + sumW F pre), .agg (fc F (.slice A F.ps.length c)).toArray, .string ⟨x.1.toArray⟩, .int .i64 (wideL F x.1), .int .i64 (N * F.sp + sumW F pre + wideL F x.1), undef], defers := [] } ∧ w' = w2.setCell ⟨W0.heap.size, 0, none⟩ (.int .i64 (N * F.sp + sumW F pre + wideL F x.1))) ?_ ?_
                  · gi_wp2
                    first | exact ⟨trivial, trivial⟩ | exact ⟨trivial, rfl⟩ | exact ⟨rfl, trivial⟩ | exact ⟨rfl, rfl⟩
                  · rintro a' w' ⟨rfl, rfl⟩
                    exact wpAnyIn_done (by kernel_rfl) (HEND w2 hb2) _
        · refine wpOpIn_to rfl (fun a' w' => a' = { tmps := #[.agg (fc F (.slice A F.ps.length c)).toArray, .string s, .pointer (some ⟨w.heap.size, 0, none⟩), undef, .int .i64 0, .pointer (some ⟨W0.heap.size, 0, none⟩), .string ⟨x.1.toArray⟩, .string s, .int .i64 N, .pointer (some ⟨w.heap.size, 26, none⟩), .int .i8 F.sp, .int .i64 F.sp, .int .i64 (N * F.sp), .string s, .func (.func 214) #[] #[.pointer (some ⟨W0.heap.size + 1, 0, none⟩)], .string ⟨x.1.toArray⟩, .int .i64 (N * F.sp + sumW F pre), undef, .string ⟨x.1.toArray⟩, undef, undef, undef], defers := [] } ∧ w' = W.drew) ?_ ?_
          · gi_wp2
            first | exact ⟨trivial, trivial⟩ | exact ⟨trivial, rfl⟩ | exact ⟨rfl, trivial⟩ | exact ⟨rfl, rfl⟩
          · rintro a' w' ⟨rfl, rfl⟩
            change wpAnyIn _ _ _ _ _ _ (3 + 1) #[true, false, true, false, false, false] ({ tmps := #[.agg (fc F (.slice A F.ps.length c)).toArray, .string s, .pointer (some ⟨w.heap.size, 0, none⟩), undef, .int .i64 0, .pointer (some ⟨W0.heap.size, 0, none⟩), .string ⟨x.1.toArray⟩, .string s, .int .i64 N, .pointer (some ⟨w.heap.size, 26, none⟩), .int .i8 F.sp, .int .i64 F.sp, .int .i64 (N * F.sp), .string s, .func (.func 214) #[] #[.pointer (some ⟨W0.heap.size + 1, 0, none⟩)], .string ⟨x.1.toArray⟩, .int .i64 (N * F.sp + sumW F pre), undef, .string ⟨x.1.toArray⟩, undef, undef, undef], defers := [] }) W.drew
            refine wpAnyIn_all (rs := [1]) (by kernel_rfl) (by simp) (fun i hi => ?_)
            obtain rfl : i = 1 := by simpa using hi
            refine wpOpIn_to rfl (fun a' w' => a' = { tmps := #[.agg (fc F (.slice A F.ps.length c)).toArray, .string s, .pointer (some ⟨w.heap.size, 0, none⟩), undef, .int .i64 0, .pointer (some ⟨W0.heap.size, 0, none⟩), .string ⟨x.1.toArray⟩, .string s, .int .i64 N, .pointer (some ⟨w.heap.size, 26, none⟩), .int .i8 F.sp, .int .i64 F.sp, .int .i64 (N * F.sp), .string s, .func (.func 214) #[] #[.pointer (some ⟨W0.heap.size + 1, 0, none⟩)], .string ⟨x.1.toArray⟩, .int .i64 (N * F.sp + sumW F pre), .agg (fc F (.slice A F.ps.length c)).toArray, .string ⟨x.1.toArray⟩, undef, undef, undef], defers := [] } ∧ w' = W.drew) ?_ ?_
            · refine wpListIn_load_mid rfl 28 (.tmp 2) rfl w.heap.size 0 rfl _ _ hR' Tryz.underlying28 rfl HII.out ?_
              exact ⟨rfl, rfl⟩
            · rintro a' w' ⟨rfl, rfl⟩
              change wpAnyIn _ _ _ _ _ _ (2 + 1) #[true, true, true, false, false, false] ({ tmps := #[.agg (fc F (.slice A F.ps.length c)).toArray, .string s, .pointer (some ⟨w.heap.size, 0, none⟩), undef, .int .i64 0, .pointer (some ⟨W0.heap.size, 0, none⟩), .string ⟨x.1.toArray⟩, .string s, .int .i64 N, .pointer (some ⟨w.heap.size, 26, none⟩), .int .i8 F.sp, .int .i64 F.sp, .int .i64 (N * F.sp), .string s, .func (.func 214) #[] #[.pointer (some ⟨W0.heap.size + 1, 0, none⟩)], .string ⟨x.1.toArray⟩, .int .i64 (N * F.sp + sumW F pre), .agg (fc F (.slice A F.ps.length c)).toArray, .string ⟨x.1.toArray⟩, undef, undef, undef], defers := [] }) W.drew
              refine wpAnyIn_all (rs := [3]) (by kernel_rfl) (by simp) (fun i hi => ?_)
              obtain rfl : i = 3 := by simpa using hi
              refine wpOpIn_to rfl (fun a' w' => a' = { tmps := #[.agg (fc F (.slice A F.ps.length c)).toArray, .string s, .pointer (some ⟨w.heap.size, 0, none⟩), undef, .int .i64 0, .pointer (some ⟨W0.heap.size, 0, none⟩), .string ⟨x.1.toArray⟩, .string s, .int .i64 N, .pointer (some ⟨w.heap.size, 26, none⟩), .int .i8 F.sp, .int .i64 F.sp, .int .i64 (N * F.sp), .string s, .func (.func 214) #[] #[.pointer (some ⟨W0.heap.size + 1, 0, none⟩)], .string ⟨x.1.toArray⟩, .int .i64 (N * F.sp + sumW F pre), .agg (fc F (.slice A F.ps.length c)).toArray, .string ⟨x.1.toArray⟩, .int .i64 (wideL F x.1), undef, undef], defers := [] } ∧ Below W.drew.heap.size W.drew w') ?_ ?_
              · gi_wp2_with (refine ⟨trivial, ?_⟩; gi_at_call 121; refine (CallsIn.inRound l (callsIn_wide.2 (HWW.out _ hA'))).mono ?_; rintro e w2 ⟨rfl, hb2⟩)
                first | exact ⟨trivial, hb2⟩ | exact ⟨rfl, hb2⟩
              · rintro a' w2 ⟨rfl, hb2⟩
                have c2 := (hb2.cell (p := ⟨W0.heap.size, 0, none⟩) hlt0).trans hc'
                have f2 := frozen_below hb2 hlt0 hf'
                change wpAnyIn _ _ _ _ _ _ (1 + 1) #[true, true, true, true, false, false] ({ tmps := #[.agg (fc F (.slice A F.ps.length c)).toArray, .string s, .pointer (some ⟨w.heap.size, 0, none⟩), undef, .int .i64 0, .pointer (some ⟨W0.heap.size, 0, none⟩), .string ⟨x.1.toArray⟩, .string s, .int .i64 N, .pointer (some ⟨w.heap.size, 26, none⟩), .int .i8 F.sp, .int .i64 F.sp, .int .i64 (N * F.sp), .string s, .func (.func 214) #[] #[.pointer (some ⟨W0.heap.size + 1, 0, none⟩)], .string ⟨x.1.toArray⟩, .int .i64 (N * F.sp + sumW F pre), .agg (fc F (.slice A F.ps.length c)).toArray, .string ⟨x.1.toArray⟩, .int .i64 (wideL F x.1), undef, undef], defers := [] }) w2
                refine wpAnyIn_all (rs := [4]) (by kernel_rfl) (by simp) (fun i hi => ?_)
                obtain rfl : i = 4 := by simpa using hi
                refine wpOpIn_to rfl (fun a' w' => a' = { tmps := #[.agg (fc F (.slice A F.ps.length c)).toArray, .string s, .pointer (some ⟨w.heap.size, 0, none⟩), undef, .int .i64 0, .pointer (some ⟨W0.heap.size, 0, none⟩), .string ⟨x.1.toArray⟩, .string s, .int .i64 N, .pointer (some ⟨w.heap.size, 26, none⟩), .int .i8 F.sp, .int .i64 F.sp, .int .i64 (N * F.sp), .string s, .func (.func 214) #[] #[.pointer (some ⟨W0.heap.size + 1, 0, none⟩)], .string ⟨x.1.toArray⟩, .int .i64 (N * F.sp + sumW F pre), .agg (fc F (.slice A F.ps.length c)).toArray, .string ⟨x.1.toArray⟩, .int .i64 (wideL F x.1), .int .i64 (N * F.sp + sumW F pre + wideL F x.1), undef], defers := [] } ∧ w' = w2) ?_ ?_
                · gi_wp2
                  first | exact ⟨trivial, trivial⟩ | exact ⟨trivial, rfl⟩ | exact ⟨rfl, trivial⟩ | exact ⟨rfl, rfl⟩
                · rintro a' w' ⟨rfl, hw'⟩
                  rw [hw']; clear hw'
                  change wpAnyIn _ _ _ _ _ _ (0 + 1) #[true, true, true, true, true, false] ({ tmps := #[.agg (fc F (.slice A F.ps.length c)).toArray, .string s, .pointer (some ⟨w.heap.size, 0, none⟩), undef, .int .i64 0, .pointer (some ⟨W0.heap.size, 0, none⟩), .string ⟨x.1.toArray⟩, .string s, .int .i64 N, .pointer (some ⟨w.heap.size, 26, none⟩), .int .i8 F.sp, .int .i64 F.sp, .int .i64 (N * F.sp), .string s, .func (.func 214) #[] #[.pointer (some ⟨W0.heap.size + 1, 0, none⟩)], .string ⟨x.1.toArray⟩, .int .i64 (N * F.sp + sumW F pre), .agg (fc F (.slice A F.ps.length c)).toArray, .string ⟨x.1.toArray⟩, .int .i64 (wideL F x.1), .int .i64 (N * F.sp + sumW F pre + wideL F x.1), undef], defers := [] }) w2
                  refine wpAnyIn_all (rs := [5]) (by kernel_rfl) (by simp) (fun i hi => ?_)
                  obtain rfl : i = 5 := by simpa using hi
                  refine wpOpIn_to rfl (fun a' w' => a' = { tmps := #[.agg (fc F (.slice A F.ps.length c)).toArray, .string s, .pointer (some ⟨w.heap.size, 0, none⟩), undef, .int .i64 0, .pointer (some ⟨W0.heap.size, 0, none⟩), .string ⟨x.1.toArray⟩, .string s, .int .i64 N, .pointer (some ⟨w.heap.size, 26, none⟩), .int .i8 F.sp, .int .i64 F.sp, .int .i64 (N * F.sp), .string s, .func (.func 214) #[] #[.pointer (some ⟨W0.heap.size + 1, 0, none⟩)], .string ⟨x.1.toArray⟩, .int .i64 (N * F.sp + sumW F pre), .agg (fc F (.slice A F.ps.length c)).toArray, .string ⟨x.1.toArray⟩, .int .i64 (wideL F x.1), .int .i64 (N * F.sp + sumW F pre + wideL F x.1), undef], defers := [] } ∧ w' = w2.setCell ⟨W0.heap.size, 0, none⟩ (.int .i64 (N * F.sp + sumW F pre + wideL F x.1))) ?_ ?_
                  · gi_wp2
                    first | exact ⟨trivial, trivial⟩ | exact ⟨trivial, rfl⟩ | exact ⟨rfl, trivial⟩ | exact ⟨rfl, rfl⟩
                  · rintro a' w' ⟨rfl, rfl⟩
                    exact wpAnyIn_done (by kernel_rfl) (HEND w2 hb2) _
    · refine wpOpIn_to rfl (fun a' w' => a' = { tmps := #[.agg (fc F (.slice A F.ps.length c)).toArray, .string s, .pointer (some ⟨w.heap.size, 0, none⟩), undef, .int .i64 0, .pointer (some ⟨W0.heap.size, 0, none⟩), .string ⟨x.1.toArray⟩, .string s, .int .i64 N, .pointer (some ⟨w.heap.size, 26, none⟩), .int .i8 F.sp, .int .i64 F.sp, .int .i64 (N * F.sp), .string s, .func (.func 214) #[] #[.pointer (some ⟨W0.heap.size + 1, 0, none⟩)], .string ⟨x.1.toArray⟩, undef, .agg (fc F (.slice A F.ps.length c)).toArray, undef, undef, undef, undef], defers := [] } ∧ w' = W.drew) ?_ ?_
      · refine wpListIn_load_mid rfl 28 (.tmp 2) rfl w.heap.size 0 rfl _ _ hR' Tryz.underlying28 rfl HII.out ?_
        exact ⟨rfl, rfl⟩
      · rintro a' w' ⟨rfl, rfl⟩
        change wpAnyIn _ _ _ _ _ _ (4 + 1) #[false, true, false, false, false, false] ({ tmps := #[.agg (fc F (.slice A F.ps.length c)).toArray, .string s, .pointer (some ⟨w.heap.size, 0, none⟩), undef, .int .i64 0, .pointer (some ⟨W0.heap.size, 0, none⟩), .string ⟨x.1.toArray⟩, .string s, .int .i64 N, .pointer (some ⟨w.heap.size, 26, none⟩), .int .i8 F.sp, .int .i64 F.sp, .int .i64 (N * F.sp), .string s, .func (.func 214) #[] #[.pointer (some ⟨W0.heap.size + 1, 0, none⟩)], .string ⟨x.1.toArray⟩, undef, .agg (fc F (.slice A F.ps.length c)).toArray, undef, undef, undef, undef], defers := [] }) W.drew
        refine wpAnyIn_all (rs := [0, 2]) (by kernel_rfl) (by simp) (fun i hi => ?_)
        have hi' : i = 0 ∨ i = 2 := by simpa using hi
        rcases hi' with rfl | rfl
        · refine wpOpIn_to rfl (fun a' w' => a' = { tmps := #[.agg (fc F (.slice A F.ps.length c)).toArray, .string s, .pointer (some ⟨w.heap.size, 0, none⟩), undef, .int .i64 0, .pointer (some ⟨W0.heap.size, 0, none⟩), .string ⟨x.1.toArray⟩, .string s, .int .i64 N, .pointer (some ⟨w.heap.size, 26, none⟩), .int .i8 F.sp, .int .i64 F.sp, .int .i64 (N * F.sp), .string s, .func (.func 214) #[] #[.pointer (some ⟨W0.heap.size + 1, 0, none⟩)], .string ⟨x.1.toArray⟩, .int .i64 (N * F.sp + sumW F pre), .agg (fc F (.slice A F.ps.length c)).toArray, undef, undef, undef, undef], defers := [] } ∧ w' = W.drew) ?_ ?_
          · gi_wp2
            first | exact ⟨trivial, trivial⟩ | exact ⟨trivial, rfl⟩ | exact ⟨rfl, trivial⟩ | exact ⟨rfl, rfl⟩
          · rintro a' w' ⟨rfl, rfl⟩
            change wpAnyIn _ _ _ _ _ _ (3 + 1) #[true, true, false, false, false, false] ({ tmps := #[.agg (fc F (.slice A F.ps.length c)).toArray, .string s, .pointer (some ⟨w.heap.size, 0, none⟩), undef, .int .i64 0, .pointer (some ⟨W0.heap.size, 0, none⟩), .string ⟨x.1.toArray⟩, .string s, .int .i64 N, .pointer (some ⟨w.heap.size, 26, none⟩), .int .i8 F.sp, .int .i64 F.sp, .int .i64 (N * F.sp), .string s, .func (.func 214) #[] #[.pointer (some ⟨W0.heap.size + 1, 0, none⟩)], .string ⟨x.1.toArray⟩, .int .i64 (N * F.sp + sumW F pre), .agg (fc F (.slice A F.ps.length c)).toArray, undef, undef, undef, undef], defers := [] }) W.drew
            refine wpAnyIn_all (rs := [2]) (by kernel_rfl) (by simp) (fun i hi => ?_)
            obtain rfl : i = 2 := by simpa using hi
            refine wpOpIn_to rfl (fun a' w' => a' = { tmps := #[.agg (fc F (.slice A F.ps.length c)).toArray, .string s, .pointer (some ⟨w.heap.size, 0, none⟩), undef, .int .i64 0, .pointer (some ⟨W0.heap.size, 0, none⟩), .string ⟨x.1.toArray⟩, .string s, .int .i64 N, .pointer (some ⟨w.heap.size, 26, none⟩), .int .i8 F.sp, .int .i64 F.sp, .int .i64 (N * F.sp), .string s, .func (.func 214) #[] #[.pointer (some ⟨W0.heap.size + 1, 0, none⟩)], .string ⟨x.1.toArray⟩, .int .i64 (N * F.sp + sumW F pre), .agg (fc F (.slice A F.ps.length c)).toArray, .string ⟨x.1.toArray⟩, undef, undef, undef], defers := [] } ∧ w' = W.drew) ?_ ?_
            · gi_wp2
              first | exact ⟨trivial, trivial⟩ | exact ⟨trivial, rfl⟩ | exact ⟨rfl, trivial⟩ | exact ⟨rfl, rfl⟩
            · rintro a' w' ⟨rfl, rfl⟩
              change wpAnyIn _ _ _ _ _ _ (2 + 1) #[true, true, true, false, false, false] ({ tmps := #[.agg (fc F (.slice A F.ps.length c)).toArray, .string s, .pointer (some ⟨w.heap.size, 0, none⟩), undef, .int .i64 0, .pointer (some ⟨W0.heap.size, 0, none⟩), .string ⟨x.1.toArray⟩, .string s, .int .i64 N, .pointer (some ⟨w.heap.size, 26, none⟩), .int .i8 F.sp, .int .i64 F.sp, .int .i64 (N * F.sp), .string s, .func (.func 214) #[] #[.pointer (some ⟨W0.heap.size + 1, 0, none⟩)], .string ⟨x.1.toArray⟩, .int .i64 (N * F.sp + sumW F pre), .agg (fc F (.slice A F.ps.length c)).toArray, .string ⟨x.1.toArray⟩, undef, undef, undef], defers := [] }) W.drew
              refine wpAnyIn_all (rs := [3]) (by kernel_rfl) (by simp) (fun i hi => ?_)
              obtain rfl : i = 3 := by simpa using hi
              refine wpOpIn_to rfl (fun a' w' => a' = { tmps := #[.agg (fc F (.slice A F.ps.length c)).toArray, .string s, .pointer (some ⟨w.heap.size, 0, none⟩), undef, .int .i64 0, .pointer (some ⟨W0.heap.size, 0, none⟩), .string ⟨x.1.toArray⟩, .string s, .int .i64 N, .pointer (some ⟨w.heap.size, 26, none⟩), .int .i8 F.sp, .int .i64 F.sp, .int .i64 (N * F.sp), .string s, .func (.func 214) #[] #[.pointer (some ⟨W0.heap.size + 1, 0, none⟩)], .string ⟨x.1.toArray⟩, .int .i64 (N * F.sp + sumW F pre), .agg (fc F (.slice A F.ps.length c)).toArray, .string ⟨x.1.toArray⟩, .int .i64 (wideL F x.1), undef, undef], defers := [] } ∧ Below W.drew.heap.size W.drew w') ?_ ?_
              · gi_wp2_with (refine ⟨trivial, ?_⟩; gi_at_call 121; refine (CallsIn.inRound l (callsIn_wide.2 (HWW.out _ hA'))).mono ?_; rintro e w2 ⟨rfl, hb2⟩)
                first | exact ⟨trivial, hb2⟩ | exact ⟨rfl, hb2⟩
              · rintro a' w2 ⟨rfl, hb2⟩
                have c2 := (hb2.cell (p := ⟨W0.heap.size, 0, none⟩) hlt0).trans hc'
                have f2 := frozen_below hb2 hlt0 hf'
                change wpAnyIn _ _ _ _ _ _ (1 + 1) #[true, true, true, true, false, false] ({ tmps := #[.agg (fc F (.slice A F.ps.length c)).toArray, .string s, .pointer (some ⟨w.heap.size, 0, none⟩), undef, .int .i64 0, .pointer (some ⟨W0.heap.size, 0, none⟩), .string ⟨x.1.toArray⟩, .string s, .int .i64 N, .pointer (some ⟨w.heap.size, 26, none⟩), .int .i8 F.sp, .int .i64 F.sp, .int .i64 (N * F.sp), .string s, .func (.func 214) #[] #[.pointer (some ⟨W0.heap.size + 1, 0, none⟩)], .string ⟨x.1.toArray⟩, .int .i64 (N * F.sp + sumW F pre), .agg (fc F (.slice A F.ps.length c)).toArray, .string ⟨x.1.toArray⟩, .int .i64 (wideL F x.1), undef, undef], defers := [] }) w2
                refine wpAnyIn_all (rs := [4]) (by kernel_rfl) (by simp) (fun i hi => ?_)
                obtain rfl : i = 4 := by simpa using hi
                refine wpOpIn_to rfl (fun a' w' => a' = { tmps := #[.agg (fc F (.slice A F.ps.length c)).toArray, .string s, .pointer (some ⟨w.heap.size, 0, none⟩), undef, .int .i64 0, .pointer (some ⟨W0.heap.size, 0, none⟩), .string ⟨x.1.toArray⟩, .string s, .int .i64 N, .pointer (some ⟨w.heap.size, 26, none⟩), .int .i8 F.sp, .int .i64 F.sp, .int .i64 (N * F.sp), .string s, .func (.func 214) #[] #[.pointer (some ⟨W0.heap.size + 1, 0, none⟩)], .string ⟨x.1.toArray⟩, .int .i64 (N * F.sp + sumW F pre), .agg (fc F (.slice A F.ps.length c)).toArray, .string ⟨x.1.toArray⟩, .int .i64 (wideL F x.1), .int .i64 (N * F.sp + sumW F pre + wideL F x.1), undef], defers := [] } ∧ w' = w2) ?_ ?_
                · gi_wp2
                  first | exact ⟨trivial, trivial⟩ | exact ⟨trivial, rfl⟩ | exact ⟨rfl, trivial⟩ | exact ⟨rfl, rfl⟩
                · rintro a' w' ⟨rfl, hw'⟩
                  rw [hw']; clear hw'
                  change wpAnyIn _ _ _ _ _ _ (0 + 1) #[true, true, true, true, true, false] ({ tmps := #[.agg (fc F (.slice A F.ps.length c)).toArray, .string s, .pointer (some ⟨w.heap.size, 0, none⟩), undef, .int .i64 0, .pointer (some ⟨W0.heap.size, 0, none⟩), .string ⟨x.1.toArray⟩, .string s, .int .i64 N, .pointer (some ⟨w.heap.size, 26, none⟩), .int .i8 F.sp, .int .i64 F.sp, .int .i64 (N * F.sp), .string s, .func (.func 214) #[] #[.pointer (some ⟨W0.heap.size + 1, 0, none⟩)], .string ⟨x.1.toArray⟩, .int .i64 (N * F.sp + sumW F pre), .agg (fc F (.slice A F.ps.length c)).toArray, .string ⟨x.1.toArray⟩, .int .i64 (wideL F x.1), .int .i64 (N * F.sp + sumW F pre + wideL F x.1), undef], defers := [] }) w2
                  refine wpAnyIn_all (rs := [5]) (by kernel_rfl) (by simp) (fun i hi => ?_)
                  obtain rfl : i = 5 := by simpa using hi
                  refine wpOpIn_to rfl (fun a' w' => a' = { tmps := #[.agg (fc F (.slice A F.ps.length c)).toArray, .string s, .pointer (some ⟨w.heap.size, 0, none⟩), undef, .int .i64 0, .pointer (some ⟨W0.heap.size, 0, none⟩), .string ⟨x.1.toArray⟩, .string s, .int .i64 N, .pointer (some ⟨w.heap.size, 26, none⟩), .int .i8 F.sp, .int .i64 F.sp, .int .i64 (N * F.sp), .string s, .func (.func 214) #[] #[.pointer (some ⟨W0.heap.size + 1, 0, none⟩)], .string ⟨x.1.toArray⟩, .int .i64 (N * F.sp + sumW F pre), .agg (fc F (.slice A F.ps.length c)).toArray, .string ⟨x.1.toArray⟩, .int .i64 (wideL F x.1), .int .i64 (N * F.sp + sumW F pre + wideL F x.1), undef], defers := [] } ∧ w' = w2.setCell ⟨W0.heap.size, 0, none⟩ (.int .i64 (N * F.sp + sumW F pre + wideL F x.1))) ?_ ?_
                  · gi_wp2
                    first | exact ⟨trivial, trivial⟩ | exact ⟨trivial, rfl⟩ | exact ⟨rfl, trivial⟩ | exact ⟨rfl, rfl⟩
                  · rintro a' w' ⟨rfl, rfl⟩
                    exact wpAnyIn_done (by kernel_rfl) (HEND w2 hb2) _
        · refine wpOpIn_to rfl (fun a' w' => a' = { tmps := #[.agg (fc F (.slice A F.ps.length c)).toArray, .string s, .pointer (some ⟨w.heap.size, 0, none⟩), undef, .int .i64 0, .pointer (some ⟨W0.heap.size, 0, none⟩), .string ⟨x.1.toArray⟩, .string s, .int .i64 N, .pointer (some ⟨w.heap.size, 26, none⟩), .int .i8 F.sp, .int .i64 F.sp, .int .i64 (N * F.sp), .string s, .func (.func 214) #[] #[.pointer (some ⟨W0.heap.size + 1, 0, none⟩)], .string ⟨x.1.toArray⟩, undef, .agg (fc F (.slice A F.ps.length c)).toArray, .string ⟨x.1.toArray⟩, undef, undef, undef], defers := [] } ∧ w' = W.drew) ?_ ?_
          · gi_wp2
            first | exact ⟨trivial, trivial⟩ | exact ⟨trivial, rfl⟩ | exact ⟨rfl, trivial⟩ | exact ⟨rfl, rfl⟩
          · rintro a' w' ⟨rfl, rfl⟩
            change wpAnyIn _ _ _ _ _ _ (3 + 1) #[false, true, true, false, false, false] ({ tmps := #[.agg (fc F (.slice A F.ps.length c)).toArray, .string s, .pointer (some ⟨w.heap.size, 0, none⟩), undef, .int .i64 0, .pointer (some ⟨W0.heap.size, 0, none⟩), .string ⟨x.1.toArray⟩, .string s, .int .i64 N, .pointer (some ⟨w.heap.size, 26, none⟩), .int .i8 F.sp, .int .i64 F.sp, .int .i64 (N * F.sp), .string s, .func (.func 214) #[] #[.pointer (some ⟨W0.heap.size + 1, 0, none⟩)], .string ⟨x.1.toArray⟩, undef, .agg (fc F (.slice A F.ps.length c)).toArray, .string ⟨x.1.toArray⟩, undef, undef, undef], defers := [] }) W.drew
            refine wpAnyIn_all (rs := [0, 3]) (by kernel_rfl) (by simp) (fun i hi => ?_)
            have hi' : i = 0 ∨ i = 3 := by simpa using hi
            rcases hi' with rfl | rfl
            · refine wpOpIn_to rfl (fun a' w' => a' = { tmps := #[.agg (fc F (.slice A F.ps.length c)).toArray, .string s, .pointer (some ⟨w.heap.size, 0, none⟩), undef, .int .i64 0, .pointer (some ⟨W0.heap.size, 0, none⟩), .string ⟨x.1.toArray⟩, .string s, .int .i64 N, .pointer (some ⟨w.heap.size, 26, none⟩), .int .i8 F.sp, .int .i64 F.sp, .int .i64 (N * F.sp), .string s, .func (.func 214) #[] #[.pointer (some ⟨W0.heap.size + 1, 0, none⟩)], .string ⟨x.1.toArray⟩, .int .i64 (N * F.sp + sumW F pre), .agg (fc F (.slice A F.ps.length c)).toArray, .string ⟨x.1.toArray⟩, undef, undef, undef], defers := [] } ∧ w' = W.drew) ?_ ?_
              · gi_wp2
                first | exact ⟨trivial, trivial⟩ | exact ⟨trivial, rfl⟩ | exact ⟨rfl, trivial⟩ | exact ⟨rfl, rfl⟩
              · rintro a' w' ⟨rfl, rfl⟩
                change wpAnyIn _ _ _ _ _ _ (2 + 1) #[true, true, true, false, false, false] ({ tmps := #[.agg (fc F (.slice A F.ps.length c)).toArray, .string s, .pointer (some ⟨w.heap.size, 0, none⟩), undef, .int .i64 0, .pointer (some ⟨W0.heap.size, 0, none⟩), .string ⟨x.1.toArray⟩, .string s, .int .i64 N, .pointer (some ⟨w.heap.size, 26, none⟩), .int .i8 F.sp, .int .i64 F.sp, .int .i64 (N * F.sp), .string s, .func (.func 214) #[] #[.pointer (some ⟨W0.heap.size + 1, 0, none⟩)], .string ⟨x.1.toArray⟩, .int .i64 (N * F.sp + sumW F pre), .agg (fc F (.slice A F.ps.length c)).toArray, .string ⟨x.1.toArray⟩, undef, undef, undef], defers := [] }) W.drew
                refine wpAnyIn_all (rs := [3]) (by kernel_rfl) (by simp) (fun i hi => ?_)
                obtain rfl : i = 3 := by simpa using hi
                refine wpOpIn_to rfl (fun a' w' => a' = { tmps := #[.agg (fc F (.slice A F.ps.length c)).toArray, .string s, .pointer (some ⟨w.heap.size, 0, none⟩), undef, .int .i64 0, .pointer (some ⟨W0.heap.size, 0, none⟩), .string ⟨x.1.toArray⟩, .string s, .int .i64 N, .pointer (some ⟨w.heap.size, 26, none⟩), .int .i8 F.sp, .int .i64 F.sp, .int .i64 (N * F.sp), .string s, .func (.func 214) #[] #[.pointer (some ⟨W0.heap.size + 1, 0, none⟩)], .string ⟨x.1.toArray⟩, .int .i64 (N * F.sp + sumW F pre), .agg (fc F (.slice A F.ps.length c)).toArray, .string ⟨x.1.toArray⟩, .int .i64 (wideL F x.1), undef, undef], defers := [] } ∧ Below W.drew.heap.size W.drew w') ?_ ?_
                · gi_wp2_with (refine ⟨trivial, ?_⟩; gi_at_call 121; refine (CallsIn.inRound l (callsIn_wide.2 (HWW.out _ hA'))).mono ?_; rintro e w2 ⟨rfl, hb2⟩)
                  first | exact ⟨trivial, hb2⟩ | exact ⟨rfl, hb2⟩
                · rintro a' w2 ⟨rfl, hb2⟩
                  have c2 := (hb2.cell (p := ⟨W0.heap.size, 0, none⟩) hlt0).trans hc'
                  have f2 := frozen_below hb2 hlt0 hf'
                  change wpAnyIn _ _ _ _ _ _ (1 + 1) #[true, true, true, true, false, false] ({ tmps := #[.agg (fc F (.slice A F.ps.length c)).toArray, .string s, .pointer (some ⟨w.heap.size, 0, none⟩), undef, .int .i64 0, .pointer (some ⟨W0.heap.size, 0, none⟩), .string ⟨x.1.toArray⟩, .string s, .int .i64 N, .pointer (some ⟨w.heap.size, 26, none⟩), .int .i8 F.sp, .int .i64 F.sp, .int .i64 (N * F.sp), .string s, .func (.func 214) #[] #[.pointer (some ⟨W0.heap.size + 1, 0, none⟩)], .string ⟨x.1.toArray⟩, .int .i64 (N * F.sp + sumW F pre), .agg (fc F (.slice A F.ps.length c)).toArray, .string ⟨x.1.toArray⟩, .int .i64 (wideL F x.1), undef, undef], defers := [] }) w2
                  refine wpAnyIn_all (rs := [4]) (by kernel_rfl) (by simp) (fun i hi => ?_)
                  obtain rfl : i = 4 := by simpa using hi
                  refine wpOpIn_to rfl (fun a' w' => a' = { tmps := #[.agg (fc F (.slice A F.ps.length c)).toArray, .string s, .pointer (some ⟨w.heap.size, 0, none⟩), undef, .int .i64 0, .pointer (some ⟨W0.heap.size, 0, none⟩), .string ⟨x.1.toArray⟩, .string s, .int .i64 N, .pointer (some ⟨w.heap.size, 26, none⟩), .int .i8 F.sp, .int .i64 F.sp, .int .i64 (N * F.sp), .string s, .func (.func 214) #[] #[.pointer (some ⟨W0.heap.size + 1, 0, none⟩)], .string ⟨x.1.toArray⟩, .int .i64 (N * F.sp + sumW F pre), .agg (fc F (.slice A F.ps.length c)).toArray, .string ⟨x.1.toArray⟩, .int .i64 (wideL F x.1), .int .i64 (N * F.sp + sumW F pre + wideL F x.1), undef], defers := [] } ∧ w' = w2) ?_ ?_
                  · gi_wp2
                    first | exact ⟨trivial, trivial⟩ | exact ⟨trivial, rfl⟩ | exact ⟨rfl, trivial⟩ | exact ⟨rfl, rfl⟩
                  · rintro a' w' ⟨rfl, hw'⟩
                    rw [hw']; clear hw'
                    change wpAnyIn _ _ _ _ _ _ (0 + 1) #[true, true, true, true, true, false] ({ tmps := #[.agg (fc F (.slice A F.ps.length c)).toArray, .string s, .pointer (some ⟨w.heap.size, 0, none⟩), undef, .int .i64 0, .pointer (some ⟨W0.heap.size, 0, none⟩), .string ⟨x.1.toArray⟩, .string s, .int .i64 N, .pointer (some ⟨w.heap.size, 26, none⟩), .int .i8 F.sp, .int .i64 F.sp, .int .i64 (N * F.sp), .string s, .func (.func 214) #[] #[.pointer (some ⟨W0.heap.size + 1, 0, none⟩)], .string ⟨x.1.toArray⟩, .int .i64 (N * F.sp + sumW F pre), .agg (fc F (.slice A F.ps.length c)).toArray, .string ⟨x.1.toArray⟩, .int .i64 (wideL F x.1), .int .i64 (N * F.sp + sumW F pre + wideL F x.1), undef], defers := [] }) w2
                    refine wpAnyIn_all (rs := [5]) (by kernel_rfl) (by simp) (fun i hi => ?_)
                    obtain rfl : i = 5 := by simpa using hi
                    refine wpOpIn_to rfl (fun a' w' => a' = { tmps := #[.agg (fc F (.slice A F.ps.length c)).toArray, .string s, .pointer (some ⟨w.heap.size, 0, none⟩), undef, .int .i64 0, .pointer (some ⟨W0.heap.size, 0, none⟩), .string ⟨x.1.toArray⟩, .string s, .int .i64 N, .pointer (some ⟨w.heap.size, 26, none⟩), .int .i8 F.sp, .int .i64 F.sp, .int .i64 (N * F.sp), .string s, .func (.func 214) #[] #[.pointer (some ⟨W0.heap.size + 1, 0, none⟩)], .string ⟨x.1.toArray⟩, .int .i64 (N * F.sp + sumW F pre), .agg (fc F (.slice A F.ps.length c)).toArray, .string ⟨x.1.toArray⟩, .int .i64 (wideL F x.1), .int .i64 (N * F.sp + sumW F pre + wideL F x.1), undef], defers := [] } ∧ w' = w2.setCell ⟨W0.heap.size, 0, none⟩ (.int .i64 (N * F.sp + sumW F pre + wideL F x.1))) ?_ ?_
                    · gi_wp2
                      first | exact ⟨trivial, trivial⟩ | exact ⟨trivial, rfl⟩ | exact ⟨rfl, trivial⟩ | exact ⟨rfl, rfl⟩
                    · rintro a' w' ⟨rfl, rfl⟩
                      exact wpAnyIn_done (by kernel_rfl) (HEND w2 hb2) _
            · refine wpOpIn_to rfl (fun a' w' => a' = { tmps := #[.agg (fc F (.slice A F.ps.length c)).toArray, .string s, .pointer (some ⟨w.heap.size, 0, none⟩), undef, .int .i64 0, .pointer (some ⟨W0.heap.size, 0, none⟩), .string ⟨x.1.toArray⟩, .string s, .int .i64 N, .pointer (some ⟨w.heap.size, 26, none⟩), .int .i8 F.sp, .int .i64 F.sp, .int .i64 (N * F.sp), .string s, .func (.func 214) #[] #[.pointer (some ⟨W0.heap.size + 1, 0, none⟩)], .string ⟨x.1.toArray⟩, undef, .agg (fc F (.slice A F.ps.length c)).toArray, .string ⟨x.1.toArray⟩, .int .i64 (wideL F x.1), undef, undef], defers := [] } ∧ Below W.drew.heap.size W.drew w') ?_ ?_
              · gi_wp2_with (refine ⟨trivial, ?_⟩; gi_at_call 121; refine (CallsIn.inRound l (callsIn_wide.2 (HWW.out _ hA'))).mono ?_; rintro e w2 ⟨rfl, hb2⟩)
                first | exact ⟨trivial, hb2⟩ | exact ⟨rfl, hb2⟩
              · rintro a' w2 ⟨rfl, hb2⟩
                have c2 := (hb2.cell (p := ⟨W0.heap.size, 0, none⟩) hlt0).trans hc'
                have f2 := frozen_below hb2 hlt0 hf'
                change wpAnyIn _ _ _ _ _ _ (2 + 1) #[false, true, true, true, false, false] ({ tmps := #[.agg (fc F (.slice A F.ps.length c)).toArray, .string s, .pointer (some ⟨w.heap.size, 0, none⟩), undef, .int .i64 0, .pointer (some ⟨W0.heap.size, 0, none⟩), .string ⟨x.1.toArray⟩, .string s, .int .i64 N, .pointer (some ⟨w.heap.size, 26, none⟩), .int .i8 F.sp, .int .i64 F.sp, .int .i64 (N * F.sp), .string s, .func (.func 214) #[] #[.pointer (some ⟨W0.heap.size + 1, 0, none⟩)], .string ⟨x.1.toArray⟩, undef, .agg (fc F (.slice A F.ps.length c)).toArray, .string ⟨x.1.toArray⟩, .int .i64 (wideL F x.1), undef, undef], defers := [] }) w2
                refine wpAnyIn_all (rs := [0]) (by kernel_rfl) (by simp) (fun i hi => ?_)
                obtain rfl : i = 0 := by simpa using hi
                refine wpOpIn_to rfl (fun a' w' => a' = { tmps := #[.agg (fc F (.slice A F.ps.length c)).toArray, .string s, .pointer (some ⟨w.heap.size, 0, none⟩), undef, .int .i64 0, .pointer (some ⟨W0.heap.size, 0, none⟩), .string ⟨x.1.toArray⟩, .string s, .int .i64 N, .pointer (some ⟨w.heap.size, 26, none⟩), .int .i8 F.sp, .int .i64 F.sp, .int .i64 (N * F.sp), .string s, .func (.func 214) #[] #[.pointer (some ⟨W0.heap.size + 1, 0, none⟩)], .string ⟨x.1.toArray⟩, .int .i64 (N * F.sp + sumW F pre), .agg (fc F (.slice A F.ps.length c)).toArray, .string ⟨x.1.toArray⟩, .int .i64 (wideL F x.1), undef, undef], defers := [] } ∧ w' = w2) ?_ ?_
                · gi_wp2
                  first | exact ⟨trivial, trivial⟩ | exact ⟨trivial, rfl⟩ | exact ⟨rfl, trivial⟩ | exact ⟨rfl, rfl⟩
                · rintro a' w' ⟨rfl, hw'⟩
                  rw [hw']; clear hw'
                  change wpAnyIn _ _ _ _ _ _ (1 + 1) #[true, true, true, true, false, false] ({ tmps := #[.agg (fc F (.slice A F.ps.length c)).toArray, .string s, .pointer (some ⟨w.heap.size, 0, none⟩), undef, .int .i64 0, .pointer (some ⟨W0.heap.size, 0, none⟩), .string ⟨x.1.toArray⟩, .string s, .int .i64 N, .pointer (some ⟨w.heap.size, 26, none⟩), .int .i8 F.sp, .int .i64 F.sp, .int .i64 (N * F.sp), .string s, .func (.func 214) #[] #[.pointer (some ⟨W0.heap.size + 1, 0, none⟩)], .string ⟨x.1.toArray⟩, .int .i64 (N * F.sp + sumW F pre), .agg (fc F (.slice A F.ps.length c)).toArray, .string ⟨x.1.toArray⟩, .int .i64 (wideL F x.1), undef, undef], defers := [] }) w2
                  refine wpAnyIn_all (rs := [4]) (by kernel_rfl) (by simp) (fun i hi => ?_)
                  obtain rfl : i = 4 := by simpa using hi
                  refine wpOpIn_to rfl (fun a' w' => a' = { tmps := #[.agg (fc F (.slice A F.ps.length c)).toArray, .string s, .pointer (some ⟨w.heap.size, 0, none⟩), undef, .int .i64 0, .pointer (some ⟨W0.heap.size, 0, none⟩), .string ⟨x.1.toArray⟩, .string s, .int .i64 N, .pointer (some ⟨w.heap.size, 26, none⟩), .int .i8 F.sp, .int .i64 F.sp, .int .i64 (N * F.sp), .string s, .func (.func 214) #[] #[.pointer (some ⟨W0.heap.size + 1, 0, none⟩)], .string ⟨x.1.toArray⟩, .int .i64 (N * F.sp + sumW F pre), .agg (fc F (.slice A F.ps.length c)).toArray, .string ⟨x.1.toArray⟩, .int .i64 (wideL F x.1), .int .i64 (N * F.sp + sumW F pre + wideL F x.1), undef], defers := [] } ∧ w' = w2) ?_ ?_
                  · gi_wp2
                    first | exact ⟨trivial, trivial⟩ | exact ⟨trivial, rfl⟩ | exact ⟨rfl, trivial⟩ | exact ⟨rfl, rfl⟩
                  · rintro a' w' ⟨rfl, hw'⟩
                    rw [hw']; clear hw'
                    change wpAnyIn _ _ _ _ _ _ (0 + 1) #[true, true, true, true, true, false] ({ tmps := #[.agg (fc F (.slice A F.ps.length c)).toArray, .string s, .pointer (some ⟨w.heap.size, 0, none⟩), undef, .int .i64 0, .pointer (some ⟨W0.heap.size, 0, none⟩), .string ⟨x.1.toArray⟩, .string s, .int .i64 N, .pointer (some ⟨w.heap.size, 26, none⟩), .int .i8 F.sp, .int .i64 F.sp, .int .i64 (N * F.sp), .string s, .func (.func 214) #[] #[.pointer (some ⟨W0.heap.size + 1, 0, none⟩)], .string ⟨x.1.toArray⟩, .int .i64 (N * F.sp + sumW F pre), .agg (fc F (.slice A F.ps.length c)).toArray, .string ⟨x.1.toArray⟩, .int .i64 (wideL F x.1), .int .i64 (N * F.sp + sumW F pre + wideL F x.1), undef], defers := [] }) w2
                    refine wpAnyIn_all (rs := [5]) (by kernel_rfl) (by simp) (fun i hi => ?_)
                    obtain rfl : i = 5 := by simpa using hi
                    refine wpOpIn_to rfl (fun a' w' => a' = { tmps := #[.agg (fc F (.slice A F.ps.length c)).toArray, .string s, .pointer (some ⟨w.heap.size, 0, none⟩), undef, .int .i64 0, .pointer (some ⟨W0.heap.size, 0, none⟩), .string ⟨x.1.toArray⟩, .string s, .int .i64 N, .pointer (some ⟨w.heap.size, 26, none⟩), .int .i8 F.sp, .int .i64 F.sp, .int .i64 (N * F.sp), .string s, .func (.func 214) #[] #[.pointer (some ⟨W0.heap.size + 1, 0, none⟩)], .string ⟨x.1.toArray⟩, .int .i64 (N * F.sp + sumW F pre), .agg (fc F (.slice A F.ps.length c)).toArray, .string ⟨x.1.toArray⟩, .int .i64 (wideL F x.1), .int .i64 (N * F.sp + sumW F pre + wideL F x.1), undef], defers := [] } ∧ w' = w2.setCell ⟨W0.heap.size, 0, none⟩ (.int .i64 (N * F.sp + sumW F pre + wideL F x.1))) ?_ ?_
                    · gi_wp2
                      first | exact ⟨trivial, trivial⟩ | exact ⟨trivial, rfl⟩ | exact ⟨rfl, trivial⟩ | exact ⟨rfl, rfl⟩
                    · rintro a' w' ⟨rfl, rfl⟩
                      exact wpAnyIn_done (by kernel_rfl) (HEND w2 hb2) _
    · refine wpOpIn_to rfl (fun a' w' => a' = { tmps := #[.agg (fc F (.slice A F.ps.length c)).toArray, .string s, .pointer (some ⟨w.heap.size, 0, none⟩), undef, .int .i64 0, .pointer (some ⟨W0.heap.size, 0, none⟩), .string ⟨x.1.toArray⟩, .string s, .int .i64 N, .pointer (some ⟨w.heap.size, 26, none⟩), .int .i8 F.sp, .int .i64 F.sp, .int .i64 (N * F.sp), .string s, .func (.func 214) #[] #[.pointer (some ⟨W0.heap.size + 1, 0, none⟩)], .string ⟨x.1.toArray⟩, undef, undef, .string ⟨x.1.toArray⟩, undef, undef, undef], defers := [] } ∧ w' = W.drew) ?_ ?_
      · gi_wp2
        first | exact ⟨trivial, trivial⟩ | exact ⟨trivial, rfl⟩ | exact ⟨rfl, trivial⟩ | exact ⟨rfl, rfl⟩
      · rintro a' w' ⟨rfl, rfl⟩
        change wpAnyIn _ _ _ _ _ _ (4 + 1) #[false, false, true, false, false, false] ({ tmps := #[.agg (fc F (.slice A F.ps.length c)).toArray, .string s, .pointer (some ⟨w.heap.size, 0, none⟩), undef, .int .i64 0, .pointer (some ⟨W0.heap.size, 0, none⟩), .string ⟨x.1.toArray⟩, .string s, .int .i64 N, .pointer (some ⟨w.heap.size, 26, none⟩), .int .i8 F.sp, .int .i64 F.sp, .int .i64 (N * F.sp), .string s, .func (.func 214) #[] #[.pointer (some ⟨W0.heap.size + 1, 0, none⟩)], .string ⟨x.1.toArray⟩, undef, undef, .string ⟨x.1.toArray⟩, undef, undef, undef], defers := [] }) W.drew
        refine wpAnyIn_all (rs := [0, 1]) (by kernel_rfl) (by simp) (fun i hi => ?_)
        have hi' : i = 0 ∨ i = 1 := by simpa using hi
        rcases hi' with rfl | rfl
        · refine wpOpIn_to rfl (fun a' w' => a' = { tmps := #[.agg (fc F (.slice A F.ps.length c)).toArray, .string s, .pointer (some ⟨w.heap.size, 0, none⟩), undef, .int .i64 0, .pointer (some ⟨W0.heap.size, 0, none⟩), .string ⟨x.1.toArray⟩, .string s, .int .i64 N, .pointer (some ⟨w.heap.size, 26, none⟩), .int .i8 F.sp, .int .i64 F.sp, .int .i64 (N * F.sp), .string s, .func (.func 214) #[] #[.pointer (some ⟨W0.heap.size + 1, 0, none⟩)], .string ⟨x.1.toArray⟩, .int .i64 (N * F.sp + sumW F pre), undef, .string ⟨x.1.toArray⟩, undef, undef, undef], defers := [] } ∧ w' = W.drew) ?_ ?_
          · gi_wp2
            first | exact ⟨trivial, trivial⟩ | exact ⟨trivial, rfl⟩ | exact ⟨rfl, trivial⟩ | exact ⟨rfl, rfl⟩
          · rintro a' w' ⟨rfl, rfl⟩
            change wpAnyIn _ _ _ _ _ _ (3 + 1) #[true, false, true, false, false, false] ({ tmps := #[.agg (fc F (.slice A F.ps.length c)).toArray, .string s, .pointer (some ⟨w.heap.size, 0, none⟩), undef, .int .i64 0, .pointer (some ⟨W0.heap.size, 0, none⟩), .string ⟨x.1.toArray⟩, .string s, .int .i64 N, .pointer (some ⟨w.heap.size, 26, none⟩), .int .i8 F.sp, .int .i64 F.sp, .int .i64 (N * F.sp), .string s, .func (.func 214) #[] #[.pointer (some ⟨W0.heap.size + 1, 0, none⟩)], .string ⟨x.1.toArray⟩, .int .i64 (N * F.sp + sumW F pre), undef, .string ⟨x.1.toArray⟩, undef, undef, undef], defers := [] }) W.drew
            refine wpAnyIn_all (rs := [1]) (by kernel_rfl) (by simp) (fun i hi => ?_)
            obtain rfl : i = 1 := by simpa using hi
            refine wpOpIn_to rfl (fun a' w' => a' = { tmps := #[.agg (fc F (.slice A F.ps.length c)).toArray, .string s, .pointer (some ⟨w.heap.size, 0, none⟩), undef, .int .i64 0, .pointer (some ⟨W0.heap.size, 0, none⟩), .string ⟨x.1.toArray⟩, .string s, .int .i64 N, .pointer (some ⟨w.heap.size, 26, none⟩), .int .i8 F.sp, .int .i64 F.sp, .int .i64 (N * F.sp), .string s, .func (.func 214) #[] #[.pointer (some ⟨W0.heap.size + 1, 0, none⟩)], .string ⟨x.1.toArray⟩, .int .i64 (N * F.sp + sumW F pre), .agg (fc F (.slice A F.ps.length c)).toArray, .string ⟨x.1.toArray⟩, undef, undef, undef], defers := [] } ∧ w' = W.drew) ?_ ?_
            · refine wpListIn_load_mid rfl 28 (.tmp 2) rfl w.heap.size 0 rfl _ _ hR' Tryz.underlying28 rfl HII.out ?_
              exact ⟨rfl, rfl⟩
            · rintro a' w' ⟨rfl, rfl⟩
              change wpAnyIn _ _ _ _ _ _ (2 + 1) #[true, true, true, false, false, false] ({ tmps := #[.agg (fc F (.slice A F.ps.length c)).toArray, .string s, .pointer (some ⟨w.heap.size, 0, none⟩), undef, .int .i64 0, .pointer (some ⟨W0.heap.size, 0, none⟩), .string ⟨x.1.toArray⟩, .string s, .int .i64 N, .pointer (some ⟨w.heap.size, 26, none⟩), .int .i8 F.sp, .int .i64 F.sp, .int .i64 (N * F.sp), .string s, .func (.func 214) #[] #[.pointer (some ⟨W0.heap.size + 1, 0, none⟩)], .string ⟨x.1.toArray⟩, .int .i64 (N * F.sp + sumW F pre), .agg (fc F (.slice A F.ps.length c)).toArray, .string ⟨x.1.toArray⟩, undef, undef, undef], defers := [] }) W.drew
              refine wpAnyIn_all (rs := [3]) (by kernel_rfl) (by simp) (fun i hi => ?_)
              obtain rfl : i = 3 := by simpa using hi
              refine wpOpIn_to rfl (fun a' w' => a' = { tmps := #[.agg (fc F (.slice A F.ps.length c)).toArray, .string s, .pointer (some ⟨w.heap.size, 0, none⟩), undef, .int .i64 0, .pointer (some ⟨W0.heap.size, 0, none⟩), .string ⟨x.1.toArray⟩, .string s, .int .i64 N, .pointer (some ⟨w.heap.size, 26, none⟩), .int .i8 F.sp, .int .i64 F.sp, .int .i64 (N * F.sp), .string s, .func (.func 214) #[] #[.pointer (some ⟨W0.heap.size + 1, 0, none⟩)], .string ⟨x.1.toArray⟩, .int .i64 (N * F.sp + sumW F pre), .agg (fc F (.slice A F.ps.length c)).toArray, .string ⟨x.1.toArray⟩, .int .i64 (wideL F x.1), undef, undef], defers := [] } ∧ Below W.drew.heap.size W.drew w') ?_ ?_
              · gi_wp2_with (refine ⟨trivial, ?_⟩; gi_at_call 121; refine (CallsIn.inRound l (callsIn_wide.2 (HWW.out _ hA'))).mono ?_; rintro e w2 ⟨rfl, hb2⟩)
                first | exact ⟨trivial, hb2⟩ | exact ⟨rfl, hb2⟩
              · rintro a' w2 ⟨rfl, hb2⟩
                have c2 := (hb2.cell (p := ⟨W0.heap.size, 0, none⟩) hlt0).trans hc'
                have f2 := frozen_below hb2 hlt0 hf'
                change wpAnyIn _ _ _ _ _ _ (1 + 1) #[true, true, true, true, false, false] ({ tmps := #[.agg (fc F (.slice A F.ps.length c)).toArray, .string s, .pointer (some ⟨w.heap.size, 0, none⟩), undef, .int .i64 0, .pointer (some ⟨W0.heap.size, 0, none⟩), .string ⟨x.1.toArray⟩, .string s, .int .i64 N, .pointer (some ⟨w.heap.size, 26, none⟩), .int .i8 F.sp, .int .i64 F.sp, .int .i64 (N * F.sp), .string s, .func (.func 214) #[] #[.pointer (some ⟨W0.heap.size + 1, 0, none⟩)], .string ⟨x.1.toArray⟩, .int .i64 (N * F.sp + sumW F pre), .agg (fc F (.slice A F.ps.length c)).toArray, .string ⟨x.1.toArray⟩, .int .i64 (wideL F x.1), undef, undef], defers := [] }) w2
                refine wpAnyIn_all (rs := [4]) (by kernel_rfl) (by simp) (fun i hi => ?_)
                obtain rfl : i = 4 := by simpa using hi
                refine wpOpIn_to rfl (fun a' w' => a' = { tmps := #[.agg (fc F (.slice A F.ps.length c)).toArray, .string s, .pointer (some ⟨w.heap.size, 0, none⟩), undef, .int .i64 0, .pointer (some ⟨W0.heap.size, 0, none⟩), .string ⟨x.1.toArray⟩, .string s, .int .i64 N, .pointer (some ⟨w.heap.size, 26, none⟩), .int .i8 F.sp, .int .i64 F.sp, .int .i64 (N * F.sp), .string s, .func (.func 214) #[] #[.pointer (some ⟨W0.heap.size + 1, 0, none⟩)], .string ⟨x.1.toArray⟩, .int .i64 (N * F.sp + sumW F pre), .agg (fc F (.slice A F.ps.length c)).toArray, .string ⟨x.1.toArray⟩, .int .i64 (wideL F x.1), .int .i64 (N * F.sp + sumW F pre + wideL F x.1), undef], defers := [] } ∧ w' = w2) ?_ ?_
                · gi_wp2
                  first | exact ⟨trivial, trivial⟩ | exact ⟨trivial, rfl⟩ | exact ⟨rfl, trivial⟩ | exact ⟨rfl, rfl⟩
                · rintro a' w' ⟨rfl, hw'⟩
                  rw [hw']; clear hw'
                  change wpAnyIn _ _ _ _ _ _ (0 + 1) #[true, true, true, true, true, false] ({ tmps := #[.agg (fc F (.slice A F.ps.length c)).toArray, .string s, .pointer (some ⟨w.heap.size, 0, none⟩), undef, .int .i64 0, .pointer (some ⟨W0.heap.size, 0, none⟩), .string ⟨x.1.toArray⟩, .string s, .int .i64 N, .pointer (some ⟨w.heap.size, 26, none⟩), .int .i8 F.sp, .int .i64 F.sp, .int .i64 (N * F.sp), .string s, .func (.func 214) #[] #[.pointer (some ⟨W0.heap.size + 1, 0, none⟩)], .string ⟨x.1.toArray⟩, .int .i64 (N * F.sp + sumW F pre), .agg (fc F (.slice A F.ps.length c)).toArray, .string ⟨x.1.toArray⟩, .int .i64 (wideL F x.1), .int .i64 (N * F.sp + sumW F pre + wideL F x.1), undef], defers := [] }) w2
                  refine wpAnyIn_all (rs := [5]) (by kernel_rfl) (by simp) (fun i hi => ?_)
                  obtain rfl : i = 5 := by simpa using hi
                  refine wpOpIn_to rfl (fun a' w' => a' = { tmps := #[.agg (fc F (.slice A F.ps.length c)).toArray, .string s, .pointer (some ⟨w.heap.size, 0, none⟩), undef, .int .i64 0, .pointer (some ⟨W0.heap.size, 0, none⟩), .string ⟨x.1.toArray⟩, .string s, .int .i64 N, .pointer (some ⟨w.heap.size, 26, none⟩), .int .i8 F.sp, .int .i64 F.sp, .int .i64 (N * F.sp), .string s, .func (.func 214) #[] #[.pointer (some ⟨W0.heap.size + 1, 0, none⟩)], .string ⟨x.1.toArray⟩, .int .i64 (N * F.sp + sumW F pre), .agg (fc F (.slice A F.ps.length c)).toArray, .string ⟨x.1.toArray⟩, .int .i64 (wideL F x.1), .int .i64 (N * F.sp + sumW F pre + wideL F x.1), undef], defers := [] } ∧ w' = w2.setCell ⟨W0.heap.size, 0, none⟩ (.int .i64 (N * F.sp + sumW F pre + wideL F x.1))) ?_ ?_
                  · gi_wp2
                    first | exact ⟨trivial, trivial⟩ | exact ⟨trivial, rfl⟩ | exact ⟨rfl, trivial⟩ | exact ⟨rfl, rfl⟩
                  · rintro a' w' ⟨rfl, rfl⟩
                    exact wpAnyIn_done (by kernel_rfl) (HEND w2 hb2) _
        · refine wpOpIn_to rfl (fun a' w' => a' = { tmps := #[.agg (fc F (.slice A F.ps.length c)).toArray, .string s, .pointer (some ⟨w.heap.size, 0, none⟩), undef, .int .i64 0, .pointer (some ⟨W0.heap.size, 0, none⟩), .string ⟨x.1.toArray⟩, .string s, .int .i64 N, .pointer (some ⟨w.heap.size, 26, none⟩), .int .i8 F.sp, .int .i64 F.sp, .int .i64 (N * F.sp), .string s, .func (.func 214) #[] #[.pointer (some ⟨W0.heap.size + 1, 0, none⟩)], .string ⟨x.1.toArray⟩, undef, .agg (fc F (.slice A F.ps.length c)).toArray, .string ⟨x.1.toArray⟩, undef, undef, undef], defers := [] } ∧ w' = W.drew) ?_ ?_
          · refine wpListIn_load_mid rfl 28 (.tmp 2) rfl w.heap.size 0 rfl _ _ hR' Tryz.underlying28 rfl HII.out ?_
            exact ⟨rfl, rfl⟩
          · rintro a' w' ⟨rfl, rfl⟩
            change wpAnyIn _ _ _ _ _ _ (3 + 1) #[false, true, true, false, false, false] ({ tmps := #[.agg (fc F (.slice A F.ps.length c)).toArray, .string s, .pointer (some ⟨w.heap.size, 0, none⟩), undef, .int .i64 0, .pointer (some ⟨W0.heap.size, 0, none⟩), .string ⟨x.1.toArray⟩, .string s, .int .i64 N, .pointer (some ⟨w.heap.size, 26, none⟩), .int .i8 F.sp, .int .i64 F.sp, .int .i64 (N * F.sp), .string s, .func (.func 214) #[] #[.pointer (some ⟨W0.heap.size + 1, 0, none⟩)], .string ⟨x.1.toArray⟩, undef, .agg (fc F (.slice A F.ps.length c)).toArray, .string ⟨x.1.toArray⟩, undef, undef, undef], defers := [] }) W.drew
            refine wpAnyIn_all (rs := [0, 3]) (by kernel_rfl) (by simp) (fun i hi => ?_)
            have hi' : i = 0 ∨ i = 3 := by simpa using hi
            rcases hi' with rfl | rfl
            · refine wpOpIn_to rfl (fun a' w' => a' = { tmps := #[.agg (fc F (.slice A F.ps.length c)).toArray, .string s, .pointer (some ⟨w.heap.size, 0, none⟩), undef, .int .i64 0, .pointer (some ⟨W0.heap.size, 0, none⟩), .string ⟨x.1.toArray⟩, .string s, .int .i64 N, .pointer (some ⟨w.heap.size, 26, none⟩), .int .i8 F.sp, .int .i64 F.sp, .int .i64 (N * F.sp), .string s, .func (.func 214) #[] #[.pointer (some ⟨W0.heap.size + 1, 0, none⟩)], .string ⟨x.1.toArray⟩, .int .i64 (N * F.sp + sumW F pre), .agg (fc F (.slice A F.ps.length c)).toArray, .string ⟨x.1.toArray⟩, undef, undef, undef], defers := [] } ∧ w' = W.drew) ?_ ?_
              · gi_wp2
                first | exact ⟨trivial, trivial⟩ | exact ⟨trivial, rfl⟩ | exact ⟨rfl, trivial⟩ | exact ⟨rfl, rfl⟩
              · rintro a' w' ⟨rfl, rfl⟩
                change wpAnyIn _ _ _ _ _ _ (2 + 1) #[true, true, true, false, false, false] ({ tmps := #[.agg (fc F (.slice A F.ps.length c)).toArray, .string s, .pointer (some ⟨w.heap.size, 0, none⟩), undef, .int .i64 0, .pointer (some ⟨W0.heap.size, 0, none⟩), .string ⟨x.1.toArray⟩, .string s, .int .i64 N, .pointer (some ⟨w.heap.size, 26, none⟩), .int .i8 F.sp, .int .i64 F.sp, .int .i64 (N * F.sp), .string s, .func (.func 214) #[] #[.pointer (some ⟨W0.heap.size + 1, 0, none⟩)], .string ⟨x.1.toArray⟩, .int .i64 (N * F.sp + sumW F pre), .agg (fc F (.slice A F.ps.length c)).toArray, .string ⟨x.1.toArray⟩, undef, undef, undef], defers := [] }) W.drew
                refine wpAnyIn_all (rs := [3]) (by kernel_rfl) (by simp) (fun i hi => ?_)
                obtain rfl : i = 3 := by simpa using hi
                refine wpOpIn_to rfl (fun a' w' => a' = { tmps := #[.agg (fc F (.slice A F.ps.length c)).toArray, .string s, .pointer (some ⟨w.heap.size, 0, none⟩), undef, .int .i64 0, .pointer (some ⟨W0.heap.size, 0, none⟩), .string ⟨x.1.toArray⟩, .string s, .int .i64 N, .pointer (some ⟨w.heap.size, 26, none⟩), .int .i8 F.sp, .int .i64 F.sp, .int .i64 (N * F.sp), .string s, .func (.func 214) #[] #[.pointer (some ⟨W0.heap.size + 1, 0, none⟩)], .string ⟨x.1.toArray⟩, .int .i64 (N * F.sp + sumW F pre), .agg (fc F (.slice A F.ps.length c)).toArray, .string ⟨x.1.toArray⟩, .int .i64 (wideL F x.1), undef, undef], defers := [] } ∧ Below W.drew.heap.size W.drew w') ?_ ?_
                · gi_wp2_with (refine ⟨trivial, ?_⟩; gi_at_call 121; refine (CallsIn.inRound l (callsIn_wide.2 (HWW.out _ hA'))).mono ?_; rintro e w2 ⟨rfl, hb2⟩)
                  first | exact ⟨trivial, hb2⟩ | exact ⟨rfl, hb2⟩
                · rintro a' w2 ⟨rfl, hb2⟩
                  have c2 := (hb2.cell (p := ⟨W0.heap.size, 0, none⟩) hlt0).trans hc'
                  have f2 := frozen_below hb2 hlt0 hf'
                  change wpAnyIn _ _ _ _ _ _ (1 + 1) #[true, true, true, true, false, false] ({ tmps := #[.agg (fc F (.slice A F.ps.length c)).toArray, .string s, .pointer (some ⟨w.heap.size, 0, none⟩), undef, .int .i64 0, .pointer (some ⟨W0.heap.size, 0, none⟩), .string ⟨x.1.toArray⟩, .string s, .int .i64 N, .pointer (some ⟨w.heap.size, 26, none⟩), .int .i8 F.sp, .int .i64 F.sp, .int .i64 (N * F.sp), .string s, .func (.func 214) #[] #[.pointer (some ⟨W0.heap.size + 1, 0, none⟩)], .string ⟨x.1.toArray⟩, .int .i64 (N * F.sp + sumW F pre), .agg (fc F (.slice A F.ps.length c)).toArray, .string ⟨x.1.toArray⟩, .int .i64 (wideL F x.1), undef, undef], defers := [] }) w2
                  refine wpAnyIn_all (rs := [4]) (by kernel_rfl) (by simp) (fun i hi => ?_)
                  obtain rfl : i = 4 := by simpa using hi
                  refine wpOpIn_to rfl (fun a' w' => a' = { tmps := #[.agg (fc F (.slice A F.ps.length c)).toArray, .string s, .pointer (some ⟨w.heap.size, 0, none⟩), undef, .int .i64 0, .pointer (some ⟨W0.heap.size, 0, none⟩), .string ⟨x.1.toArray⟩, .string s, .int .i64 N, .pointer (some ⟨w.heap.size, 26, none⟩), .int .i8 F.sp, .int .i64 F.sp, .int .i64 (N * F.sp), .string s, .func (.func 214) #[] #[.pointer (some ⟨W0.heap.size + 1, 0, none⟩)], .string ⟨x.1.toArray⟩, .int .i64 (N * F.sp + sumW F pre), .agg (fc F (.slice A F.ps.length c)).toArray, .string ⟨x.1.toArray⟩, .int .i64 (wideL F x.1), .int .i64 (N * F.sp + sumW F pre + wideL F x.1), undef], defers := [] } ∧ w' = w2) ?_ ?_
                  · gi_wp2
                    first | exact ⟨trivial, trivial⟩ | exact ⟨trivial, rfl⟩ | exact ⟨rfl, trivial⟩ | exact ⟨rfl, rfl⟩
                  · rintro a' w' ⟨rfl, hw'⟩
                    rw [hw']; clear hw'
                    change wpAnyIn _ _ _ _ _ _ (0 + 1) #[true, true, true, true, true, false] ({ tmps := #[.agg (fc F (.slice A F.ps.length c)).toArray, .string s, .pointer (some ⟨w.heap.size, 0, none⟩), undef, .int .i64 0, .pointer (some ⟨W0.heap.size, 0, none⟩), .string ⟨x.1.toArray⟩, .string s, .int .i64 N, .pointer (some ⟨w.heap.size, 26, none⟩), .int .i8 F.sp, .int .i64 F.sp, .int .i64 (N * F.sp), .string s, .func (.func 214) #[] #[.pointer (some ⟨W0.heap.size + 1, 0, none⟩)], .string ⟨x.1.toArray⟩, .int .i64 (N * F.sp + sumW F pre), .agg (fc F (.slice A F.ps.length c)).toArray, .string ⟨x.1.toArray⟩, .int .i64 (wideL F x.1), .int .i64 (N * F.sp + sumW F pre + wideL F x.1), undef], defers := [] }) w2
                    refine wpAnyIn_all (rs := [5]) (by kernel_rfl) (by simp) (fun i hi => ?_)
                    obtain rfl : i = 5 := by simpa using hi
                    refine wpOpIn_to rfl (fun a' w' => a' = { tmps := #[.agg (fc F (.slice A F.ps.length c)).toArray, .string s, .pointer (some ⟨w.heap.size, 0, none⟩), undef, .int .i64 0, .pointer (some ⟨W0.heap.size, 0, none⟩), .string ⟨x.1.toArray⟩, .string s, .int .i64 N, .pointer (some ⟨w.heap.size, 26, none⟩), .int .i8 F.sp, .int .i64 F.sp, .int .i64 (N * F.sp), .string s, .func (.func 214) #[] #[.pointer (some ⟨W0.heap.size + 1, 0, none⟩)], .string ⟨x.1.toArray⟩, .int .i64 (N * F.sp + sumW F pre), .agg (fc F (.slice A F.ps.length c)).toArray, .string ⟨x.1.toArray⟩, .int .i64 (wideL F x.1), .int .i64 (N * F.sp + sumW F pre + wideL F x.1), undef], defers := [] } ∧ w' = w2.setCell ⟨W0.heap.size, 0, none⟩ (.int .i64 (N * F.sp + sumW F pre + wideL F x.1))) ?_ ?_
                    · gi_wp2
                      first | exact ⟨trivial, trivial⟩ | exact ⟨trivial, rfl⟩ | exact ⟨rfl, trivial⟩ | exact ⟨rfl, rfl⟩
                    · rintro a' w' ⟨rfl, rfl⟩
                      exact wpAnyIn_done (by kernel_rfl) (HEND w2 hb2) _
            · refine wpOpIn_to rfl (fun a' w' => a' = { tmps := #[.agg (fc F (.slice A F.ps.length c)).toArray, .string s, .pointer (some ⟨w.heap.size, 0, none⟩), undef, .int .i64 0, .pointer (some ⟨W0.heap.size, 0, none⟩), .string ⟨x.1.toArray⟩, .string s, .int .i64 N, .pointer (some ⟨w.heap.size, 26, none⟩), .int .i8 F.sp, .int .i64 F.sp, .int .i64 (N * F.sp), .string s, .func (.func 214) #[] #[.pointer (some ⟨W0.heap.size + 1, 0, none⟩)], .string ⟨x.1.toArray⟩, undef, .agg (fc F (.slice A F.ps.length c)).toArray, .string ⟨x.1.toArray⟩, .int .i64 (wideL F x.1), undef, undef], defers := [] } ∧ Below W.drew.heap.size W.drew w') ?_ ?_
              · gi_wp2_with (refine ⟨trivial, ?_⟩; gi_at_call 121; refine (CallsIn.inRound l (callsIn_wide.2 (HWW.out _ hA'))).mono ?_; rintro e w2 ⟨rfl, hb2⟩)
                first | exact ⟨trivial, hb2⟩ | exact ⟨rfl, hb2⟩
              · rintro a' w2 ⟨rfl, hb2⟩
                have c2 := (hb2.cell (p := ⟨W0.heap.size, 0, none⟩) hlt0).trans hc'
                have f2 := frozen_below hb2 hlt0 hf'
                change wpAnyIn _ _ _ _ _ _ (2 + 1) #[false, true, true, true, false, false] ({ tmps := #[.agg (fc F (.slice A F.ps.length c)).toArray, .string s, .pointer (some ⟨w.heap.size, 0, none⟩), undef, .int .i64 0, .pointer (some ⟨W0.heap.size, 0, none⟩), .string ⟨x.1.toArray⟩, .string s, .int .i64 N, .pointer (some ⟨w.heap.size, 26, none⟩), .int .i8 F.sp, .int .i64 F.sp, .int .i64 (N * F.sp), .string s, .func (.func 214) #[] #[.pointer (some ⟨W0.heap.size + 1, 0, none⟩)], .string ⟨x.1.toArray⟩, undef, .agg (fc F (.slice A F.ps.length c)).toArray, .string ⟨x.1.toArray⟩, .int .i64 (wideL F x.1), undef, undef], defers := [] }) w2
                refine wpAnyIn_all (rs := [0]) (by kernel_rfl) (by simp) (fun i hi => ?_)
                obtain rfl : i = 0 := by simpa using hi
                refine wpOpIn_to rfl (fun a' w' => a' = { tmps := #[.agg (fc F (.slice A F.ps.length c)).toArray, .string s, .pointer (some ⟨w.heap.size, 0, none⟩), undef, .int .i64 0, .pointer (some ⟨W0.heap.size, 0, none⟩), .string ⟨x.1.toArray⟩, .string s, .int .i64 N, .pointer (some ⟨w.heap.size, 26, none⟩), .int .i8 F.sp, .int .i64 F.sp, .int .i64 (N * F.sp), .string s, .func (.func 214) #[] #[.pointer (some ⟨W0.heap.size + 1, 0, none⟩)], .string ⟨x.1.toArray⟩, .int .i64 (N * F.sp + sumW F pre), .agg (fc F (.slice A F.ps.length c)).toArray, .string ⟨x.1.toArray⟩, .int .i64 (wideL F x.1), undef, undef], defers := [] } ∧ w' = w2) ?_ ?_
                · gi_wp2
                  first | exact ⟨trivial, trivial⟩ | exact ⟨trivial, rfl⟩ | exact ⟨rfl, trivial⟩ | exact ⟨rfl, rfl⟩
                · rintro a' w' ⟨rfl, hw'⟩
                  rw [hw']; clear hw'
                  change wpAnyIn _ _ _ _ _ _ (1 + 1) #[true, true, true, true, false, false] ({ tmps := #[.agg (fc F (.slice A F.ps.length c)).toArray, .string s, .pointer (some ⟨w.heap.size, 0, none⟩), undef, .int .i64 0, .pointer (some ⟨W0.heap.size, 0, none⟩), .string ⟨x.1.toArray⟩, .string s, .int .i64 N, .pointer (some ⟨w.heap.size, 26, none⟩), .int .i8 F.sp, .int .i64 F.sp, .int .i64 (N * F.sp), .string s, .func (.func 214) #[] #[.pointer (some ⟨W0.heap.size + 1, 0, none⟩)], .string ⟨x.1.toArray⟩, .int .i64 (N * F.sp + sumW F pre), .agg (fc F (.slice A F.ps.length c)).toArray, .string ⟨x.1.toArray⟩, .int .i64 (wideL F x.1), undef, undef], defers := [] }) w2
                  refine wpAnyIn_all (rs := [4]) (by kernel_rfl) (by simp) (fun i hi => ?_)
                  obtain rfl : i = 4 := by simpa using hi
                  refine wpOpIn_to rfl (fun a' w' => a' = { tmps := #[.agg (fc F (.slice A F.ps.length c)).toArray, .string s, .pointer (some ⟨w.heap.size, 0, none⟩), undef, .int .i64 0, .pointer (some ⟨W0.heap.size, 0, none⟩), .string ⟨x.1.toArray⟩, .string s, .int .i64 N, .pointer (some ⟨w.heap.size, 26, none⟩), .int .i8 F.sp, .int .i64 F.sp, .int .i64 (N * F.sp), .string s, .func (.func 214) #[] #[.pointer (some ⟨W0.heap.size + 1, 0, none⟩)], .string ⟨x.1.toArray⟩, .int .i64 (N * F.sp + sumW F pre), .agg (fc F (.slice A F.ps.length c)).toArray, .string ⟨x.1.toArray⟩, .int .i64 (wideL F x.1), .int .i64 (N * F.sp + sumW F pre + wideL F x.1), undef], defers := [] } ∧ w' = w2) ?_ ?_
                  · gi_wp2
                    first | exact ⟨trivial, trivial⟩ | exact ⟨trivial, rfl⟩ | exact ⟨rfl, trivial⟩ | exact ⟨rfl, rfl⟩
                  · rintro a' w' ⟨rfl, hw'⟩
                    rw [hw']; clear hw'
                    change wpAnyIn _ _ _ _ _ _ (0 + 1) #[true, true, true, true, true, false] ({ tmps := #[.agg (fc F (.slice A F.ps.length c)).toArray, .string s, .pointer (some ⟨w.heap.size, 0, none⟩), undef, .int .i64 0, .pointer (some ⟨W0.heap.size, 0, none⟩), .string ⟨x.1.toArray⟩, .string s, .int .i64 N, .pointer (some ⟨w.heap.size, 26, none⟩), .int .i8 F.sp, .int .i64 F.sp, .int .i64 (N * F.sp), .string s, .func (.func 214) #[] #[.pointer (some ⟨W0.heap.size + 1, 0, none⟩)], .string ⟨x.1.toArray⟩, .int .i64 (N * F.sp + sumW F pre), .agg (fc F (.slice A F.ps.length c)).toArray, .string ⟨x.1.toArray⟩, .int .i64 (wideL F x.1), .int .i64 (N * F.sp + sumW F pre + wideL F x.1), undef], defers := [] }) w2
                    refine wpAnyIn_all (rs := [5]) (by kernel_rfl) (by simp) (fun i hi => ?_)
                    obtain rfl : i = 5 := by simpa using hi
                    refine wpOpIn_to rfl (fun a' w' => a' = { tmps := #[.agg (fc F (.slice A F.ps.length c)).toArray, .string s, .pointer (some ⟨w.heap.size, 0, none⟩), undef, .int .i64 0, .pointer (some ⟨W0.heap.size, 0, none⟩), .string ⟨x.1.toArray⟩, .string s, .int .i64 N, .pointer (some ⟨w.heap.size, 26, none⟩), .int .i8 F.sp, .int .i64 F.sp, .int .i64 (N * F.sp), .string s, .func (.func 214) #[] #[.pointer (some ⟨W0.heap.size + 1, 0, none⟩)], .string ⟨x.1.toArray⟩, .int .i64 (N * F.sp + sumW F pre), .agg (fc F (.slice A F.ps.length c)).toArray, .string ⟨x.1.toArray⟩, .int .i64 (wideL F x.1), .int .i64 (N * F.sp + sumW F pre + wideL F x.1), undef], defers := [] } ∧ w' = w2.setCell ⟨W0.heap.size, 0, none⟩ (.int .i64 (N * F.sp + sumW F pre + wideL F x.1))) ?_ ?_
                    · gi_wp2
                      first | exact ⟨trivial, trivial⟩ | exact ⟨trivial, rfl⟩ | exact ⟨rfl, trivial⟩ | exact ⟨rfl, rfl⟩
                    · rintro a' w' ⟨rfl, rfl⟩
                      exact wpAnyIn_done (by kernel_rfl) (HEND w2 hb2) _
  case done =>
    rintro D ys W hD rfl ⟨⟨⟨hc, _⟩, _⟩, hB⟩ hK
    gi_wp2
    refine ⟨by simp, .inl ⟨_, _, rfl, run_takeDeferred hK, ?_⟩⟩
    refine ⟨_, results_tmp rfl _ _ _, ?_, hB.trans (belowK_b (w := w) (Nat.le_refl _) W D _ _ (by have := hB1.size; omega) hK rfl rfl)⟩
    exact ret_int (HLS.out _ hws).symm
  case stop =>
    rintro D c pre W _ _ h _
    exact h.elim
end Go.Proofs.YtngondeaeipcfaaGreatDoor
