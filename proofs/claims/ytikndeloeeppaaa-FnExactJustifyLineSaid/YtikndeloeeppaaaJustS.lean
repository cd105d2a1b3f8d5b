/- JustifyLine of the model. -/
import Derived.Test.YtikndeloeeppaaaGreedyS
import Derived.Test.YtikndeloeeppaaaImplLine
import Derived.Test.YtikndeloeeppaaaWordNe
namespace Go.Proofs.Ytikndeloeeppaaa
open Go Go.RowKit

/-- The width of space k, of N of them, if V is left. -/
def jlAt (sp V : Int) (N k : Nat) : Int := if (k : Int) < V % N then sp + V / N + 1 else sp + V / N
def jlL (sp V : Int) (N : Nat) : List Int := (List.range N).map (jlAt sp V N)
theorem jlL_len (sp V : Int) (N : Nat) : (jlL sp V N).length = N := by simp [jlL]
def jlTo (sp V : Int) (N k : Nat) : List Int := (List.range k).map (jlAt sp V N)
theorem jlTo_succ (sp V : Int) (N k : Nat) : jlTo sp V N (k + 1) = jlTo sp V N k ++ [jlAt sp V N k] := by simp [jlTo, List.range_succ]
theorem jlTo_len (sp V : Int) (N k : Nat) : (jlTo sp V N k).length = k := by simp [jlTo]
noncomputable def jlC (F : Fc) (L : List UInt8) (x : Int) : Int := if roomC F L x = 0 then (if Lib.countByte L 32 = 0 then 4 else 0) else roomC F L x
noncomputable def jlX (F : Fc) (L : List UInt8) (x : Int) : List Int := if jlC F L x = 0 then jlL F.sp (roomV F L x) (Lib.countByte L 32) else []
theorem jl_no {F : Fc} {L : List UInt8} {x : Int} (h : roomC F L x ≠ 0) : jlC F L x = roomC F L x ∧ jlX F L x = [] := by
  have e : jlC F L x = roomC F L x := by unfold jlC; rw [if_neg h]
  exact ⟨e, by unfold jlX; rw [e, if_neg h]⟩
theorem jl_one {F : Fc} {L : List UInt8} {x : Int} (h : roomC F L x = 0) (h2 : Lib.countByte L 32 = 0) : jlC F L x = 4 ∧ jlX F L x = [] := by
  have e : jlC F L x = 4 := by unfold jlC; rw [if_pos h, if_pos h2]
  exact ⟨e, by unfold jlX; rw [e, if_neg (by decide)]⟩
theorem jl_ok {F : Fc} {L : List UInt8} {x : Int} (h : roomC F L x = 0) (h2 : Lib.countByte L 32 ≠ 0) : jlC F L x = 0 ∧ jlX F L x = jlL F.sp (roomV F L x) (Lib.countByte L 32) := by
  have e : jlC F L x = 0 := by unfold jlC; rw [if_pos h, if_neg h2]
  exact ⟨e, by unfold jlX; rw [e, if_pos rfl]⟩
theorem words_count {L : List UInt8} : (wordsL L).length = if L = [] then 0 else Lib.countByte L 32 + 1 := by
  unfold wordsL
  split
  · rfl
  · exact splitL_count L
theorem count_nil : Lib.countByte [] 32 = 0 := rfl
theorem count_60 {L : List UInt8} (ht : vtext L = true) : Lib.countByte L 32 ≤ 60 := Nat.le_trans List.count_le_length (vtext_true.1 ht).1
theorem jlX_len (F : Fc) (L : List UInt8) (x : Int) : (jlX F L x).length ≤ 1048577 := by
  unfold jlX
  split
  · rename_i h
    rw [jlL_len]
    have hr : roomC F L x = 0 := by
      by_cases h0 : roomC F L x = 0
      · exact h0
      · rw [(jl_no h0).1] at h; exact h
    by_cases hok : vface F = true ∧ vtext L = true
    · have := count_60 hok.2; omega
    · rw [(room_inv x hok).1] at hr; cases hr
  · simp
theorem quo_bd {V : Int} {N : Nat} (h0 : 0 ≤ V) (h1 : V ≤ 4000) : 0 ≤ V / N ∧ V / N ≤ 4000 :=
  ⟨Int.ediv_nonneg h0 (by omega), Int.le_trans (Int.ediv_le_self _ h0) h1⟩

set_option maxRecDepth 100000 in
set_option maxHeartbeats 8000000 in
theorem specJustifyLine_any (F : Fc) (hF : F.ok) (A : Option Addr) (c : Nat) (s : ByteArray) (hs : s.size ≤ maxLen) (x : Int) (hx : (Lit.int .i64 x).wf = true) (w : World) (hA : PairsAt w w.heap.size A F.ps) :
    Calls Try.prog 40 #[.agg (fc F (.slice A F.ps.length c)).toArray, .string s, .int .i64 x] w (IntsBack (jlX F s.data.toList x) (jlC F s.data.toList x) w) := by
  obtain ⟨i0, hi0, hz0, hz1, hz2⟩ := info_parts Try.infoI64
  have hr := rangeAt_new w (fc F (.slice A F.ps.length c)) 32
  have hb : Below w.heap.size w (w.alloc (.cells (fc F (.slice A F.ps.length c)).toArray 32)) := (Below.refl _ _).alloc (Nat.le_refl _) _
  have hs0 : w.heap.size < (w.alloc (.cells (fc F (.slice A F.ps.length c)).toArray 32)).heap.size := by simp
  have BA := (hA.below hb).mono hb.size
  have HC := hide (l01Asked_any F hF _ A c s (inB x 0 4000) _ hs hr BA)
  rcases ask_cases F s.data.toList x with ⟨hv, ht, hi, h4⟩ | h
  · have hwl := words_len ht
    have hs60 : s.size ≤ 1048576 := by have := (vtext_true.1 ht).1; simp at this; omega
    have HW := hide (fun w => l01WordsC_any s w hs60)
    have HBL := hide (show (bas (wordsL s.data.toList)).length = (wordsL s.data.toList).length from List.length_map _)
    have HLN := hide (fun A2 c2 (W : World) (hB : Below (w.alloc (.cells (fc F (.slice A F.ps.length c)).toArray 32)).heap.size (w.alloc (.cells (fc F (.slice A F.ps.length c)).toArray 32)) W) (hS : StrsAt W W.heap.size A2 (bas (wordsL s.data.toList))) => l01Line_any F hF w.heap.size A c (wordsL s.data.toList) A2 c2 W hv (fun y hy => words_mem ht hy) hwl (rangeAt_below hr hB hs0) (Nat.lt_of_lt_of_le hs0 hB.size) ((BA.below hB).mono hB.size) hS)
    obtain ⟨t0, t1⟩ := lineTo_bd hF hv (fun y hy => words_mem ht hy) (wordsL s.data.toList).length (Nat.le_refl _)
    change 0 ≤ lineL F (wordsL s.data.toList) at t0
    change lineL F (wordsL s.data.toList) ≤ _ at t1
    have hcn := words_count (L := s.data.toList)
    have hc60 := count_60 ht
    obtain ⟨sp1, sp2⟩ := sp_bd hv
    have HST := hide (fun h => room_state (x := x) hv ht hi h)
    have HOK := hide (fun h => room_ok (x := x) hv ht hi h)
    have HN := hide (fun h => jl_no (F := F) (L := s.data.toList) (x := x) h)
    have HO := hide (fun h => jl_one (F := F) (L := s.data.toList) (x := x) h)
    have HK := hide (fun h => jl_ok (F := F) (L := s.data.toList) (x := x) h)
    have hz : s.data.toList = [] → Lib.countByte s.data.toList 32 = 0 := fun e => by rw [e]; rfl
    obtain ⟨x0, x1⟩ := inB_true.1 hi
    rw [h4] at HC
    generalize jlX F s.data.toList x = R at *
    generalize jlC F s.data.toList x = C at *
    generalize roomC F s.data.toList x = RC at *
    generalize roomV F s.data.toList x = RV at *
    generalize Lib.countByte s.data.toList 32 = N at *
    generalize hI : inB x 0 4000 = I at HC
    have HIN := hide hI
    have hnn : (s.data.toList = [] ∧ N = 0 ∧ (wordsL s.data.toList).length = 0) ∨ (wordsL s.data.toList).length = N + 1 := by
      by_cases e : s.data.toList = []
      · exact .inl ⟨e, hz e, by rw [hcn, if_pos e]⟩
      · exact .inr (by rw [hcn, if_neg e])
    clear hA BA hv ht hi h4 hs60 hI hx hcn hz
    have HNN := hide hnn
    clear hnn
    generalize wordsL s.data.toList = ws at *
    generalize lineL F ws = T at *
    obtain ⟨n, hL⟩ : ∃ n, ws.length = n := ⟨_, rfl⟩
    rw [hL] at hwl HBL HLN HW HNN t1
    clear hL
    have e1 := IntWalk.i64_in (x - T) ⟨by omega, by omega⟩
    have e2 := IntWalk.i64_in ((n : Int) - 1) ⟨by omega, by omega⟩
    by_cases hle : T ≤ x
    · obtain ⟨q1, q2, _⟩ := HOK.out hle
      have hxt : ¬ x - T < 0 := by omega
      by_cases hN : N = 0
      · obtain ⟨p1, p2⟩ := HO.out q1 hN
        rw [p1, p2]
        have hn1 : (n : Int) - 1 < 1 := by rcases HNN.out with ⟨_, _, e⟩ | e <;> omega
        clear HST HOK HN HO HK q1 q2 p1 p2
        go_enter Try.func40, Try.ntmps40
        go_wp2_with (go_at_call 103; refine (l01Room_any _ _).mono ?_; rintro e w' ⟨rfl, rfl⟩; rw [HIN.out])
        refine HC.out.mono ?_
        rintro e w1 ⟨rfl, hb1⟩
        go_wp2_with fail
        refine (HW.out w1).mono ?_
        rintro e w2 ⟨A2, c2, rfl, hc2, hP2, hb2⟩
        rw [HBL.out]
        have hB2 := hb1.trans (hb2.mono hb1.size)
        have HS := hide hP2.at_
        clear hP2
        go_wp2_with (go_at_call 104; refine (HLN.out A2 c2 _ hB2 HS.out).mono ?_; rintro e w3 ⟨rfl, hb3⟩)
        go_ret2
        have hB3 := hb.trans ((hB2.trans (hb3.mono hB2.size)).mono hb.size)
        exact ⟨_, 0, rfl, IntsIn.empty _ _ _, by first | exact hB3 | exact hB3.alloc hB3.size _⟩
      · obtain ⟨p1, p2⟩ := HK.out q1 hN
        rw [p1, p2, q2]
        have hnN : n = N + 1 := by rcases HNN.out with ⟨_, e, _⟩ | e <;> omega
        have hn1 : ¬ (n : Int) - 1 < 1 := by omega
        have HNi := hide (show (n : Int) - 1 = N by omega)
        have HR0 := hide hr
        clear HST HOK HN HO HK HNN q1 q2 p1 p2 hr hnN
        go_enter Try.func40, Try.ntmps40
        go_wp2_with (go_at_call 103; refine (l01Room_any _ _).mono ?_; rintro e w' ⟨rfl, rfl⟩; rw [HIN.out])
        refine HC.out.mono ?_
        rintro e w1 ⟨rfl, hb1⟩
        go_wp2_with fail
        refine (HW.out w1).mono ?_
        rintro e w2 ⟨A2, c2, rfl, hc2, hP2, hb2⟩
        rw [HBL.out]
        have hB2 := hb1.trans (hb2.mono hb1.size)
        have HS := hide hP2.at_
        clear hP2
        go_wp2_with (go_at_call 104; refine (HLN.out A2 c2 _ hB2 HS.out).mono ?_; rintro e w3 ⟨rfl, hb3⟩)
        have hB3 := hB2.trans (hb3.mono hB2.size)
        have hr3 := rangeAt_below HR0.out hB3 hs0
        have hs3 := hB3.size
        rw [HNi.out]
        have HSZ := hide hs3
        clear HS HC HW HLN
        go_loopw [12, 13, 14] (fun v k _ wr => ∃ j : Nat, j ≤ N ∧ k = .int .i64 j ∧ wr.ownsRow w3.heap.size 2 1 v j ((jlTo F.sp (x - T) N j).map (.int .i64)) ∧ Below w3.heap.size w3 wr)
          (fun _ k _ _ => N - (intOf k).toNat)
        case atStart => 
          refine ⟨0, by omega, rfl, ?_, (Below.refl _ _).alloc (Nat.le_refl _) _⟩
          exact World.ownsRow_lit w3 #[] 0 (Nat.le_refl _) (by unfold maxLen; omega) rfl
        case round =>
          obtain ⟨k, hk, rfl, hown, hB⟩ := hrel
          obtain ⟨Ab, cb, rfl, _, _⟩ := cellsIn_of_own hown (by omega)
          have hsw := hB.size
          by_cases hlt : k < N
          · have hi : (k : Int) < N := by omega
            have h0 : (0 : Int) ≤ k := by omega
            have hN1 : (1 : Int) ≤ N := by omega
            have hV0 : 0 ≤ x - T := by omega
            obtain ⟨d0, d1⟩ := quo_bd (V := x - T) (N := N) (by omega) (by omega)
            have x26 := rangeAt_cell (rangeAt_below hr3 hB (by omega)) (fc_sp hF.len _)
            have e7 := IntWalk.i64_in F.sp ⟨by omega, by omega⟩
            have e8 := IntWalk.i64_in (F.sp + (x - T) / N) ⟨by omega, by omega⟩
            have e9 := IntWalk.i64_in (F.sp + (x - T) / N + 1) ⟨by omega, by omega⟩
            have HTO := hide (jlTo_succ F.sp (x - T) N k)
            have HAT1 := hide (fun (h : (k : Int) < (x - T) % N) => show jlAt F.sp (x - T) N k = F.sp + (x - T) / N + 1 by unfold jlAt; rw [if_pos h])
            have HAT2 := hide (fun (h : ¬ (k : Int) < (x - T) % N) => show jlAt F.sp (x - T) N k = F.sp + (x - T) / N by unfold jlAt; rw [if_neg h])
            have HOWN := hide hown
            clear hown hr3
            by_cases hrem : (k : Int) < (x - T) % N
            · have HAT := hide (HAT1.out hrem)
              clear HAT1 HAT2
              go_wp2
              go_quiet (fail)
              go_wp2_with (at_builtin; refine wpList_append_own _ rfl (.tmp 59) (.tmp 61) 41 rfl w3.heap.size 2 i0 (.int .i64 0) 1 8 Try.underlying41 hi0 hz0 hz1 hz2 rfl (by decide) _ k _ rfl ((own_go HOWN.out (below_drewN (Below.refl _ _) _)).alloc _) ⟨wr.heap.size, 0, none⟩ 1 1 [.int .i64 (F.sp + (x - T) / N + 1)] rfl rfl ?c1 ?c2 ?c3 ?c4 ?c5 ?_)
              case c1 => exact one_cell (w := wr.drewN _) _
              case c2 => intro u hu; simp at hu; subst hu; rfl
              case c3 => unfold maxLen; omega
              case c4 => omega
              case c5 => simp; omega
              intro v' w4 hown4 hg4 _
              obtain ⟨A4, c4, rfl, _, _⟩ := cellsIn_of_own hown4 (by omega)
              have H4 := hide hown4
              have hB4 := (hB.trans (below_drewN (Below.refl _ _) _)).trans (grown_toBelow (grown_trans (World.grownBy_alloc _ _ _) hg4) (by rw [drewN_size]; omega) (fun k hk => (HOWN.out.lt k hk).1))
              clear hown4 hg4
              go_wp2
              refine ⟨⟨k + 1, by omega, by go_num, ?_, hB4⟩, by simp [intOf]; omega⟩
              rw [HTO.out, HAT.out, List.map_append]
              exact H4.out
            · have HAT := hide (HAT2.out hrem)
              clear HAT1 HAT2
              go_wp2
              go_quiet (fail)
              go_wp2_with (at_builtin; refine wpList_append_own _ rfl (.tmp 59) (.tmp 61) 41 rfl w3.heap.size 2 i0 (.int .i64 0) 1 8 Try.underlying41 hi0 hz0 hz1 hz2 rfl (by decide) _ k _ rfl ((own_go HOWN.out (below_drewN (Below.refl _ _) _)).alloc _) ⟨wr.heap.size, 0, none⟩ 1 1 [.int .i64 (F.sp + (x - T) / N)] rfl rfl ?c1 ?c2 ?c3 ?c4 ?c5 ?_)
              case c1 => exact one_cell (w := wr.drewN _) _
              case c2 => intro u hu; simp at hu; subst hu; rfl
              case c3 => unfold maxLen; omega
              case c4 => omega
              case c5 => simp; omega
              intro v' w4 hown4 hg4 _
              obtain ⟨A4, c4, rfl, _, _⟩ := cellsIn_of_own hown4 (by omega)
              have H4 := hide hown4
              have hB4 := (hB.trans (below_drewN (Below.refl _ _) _)).trans (grown_toBelow (grown_trans (World.grownBy_alloc _ _ _) hg4) (by rw [drewN_size]; omega) (fun k hk => (HOWN.out.lt k hk).1))
              clear hown4 hg4
              go_wp2
              refine ⟨⟨k + 1, by omega, by go_num, ?_, hB4⟩, by simp [intOf]; omega⟩
              rw [HTO.out, HAT.out, List.map_append]
              exact H4.out
          · obtain rfl : k = N := by omega
            obtain ⟨Ag, cg, e, _, hI⟩ := intsIn_of_own hown
            injection e with e1 e2 e3
            subst e1 e3
            have HI := hide hI
            clear hown hI
            have hlt' : ¬ (k : Int) < k := by omega
            go_wp2
            go_ret2
            have hBB := hb.trans ((hB3.trans (hB.mono hB3.size)).mono hb.size)
            exact ⟨Ab, cb, by rw [jlL_len]; rfl, IntsIn.wider HI.out (by omega), hBB⟩
    · obtain ⟨q1, _⟩ := HST.out (by omega)
      obtain ⟨p1, p2⟩ := HN.out (by rw [q1]; decide)
      rw [p1, p2, q1]
      have hxt : x - T < 0 := by omega
      clear HST HOK HN HO HK q1 p1 p2
      go_enter Try.func40, Try.ntmps40
      go_wp2_with (go_at_call 103; refine (l01Room_any _ _).mono ?_; rintro e w' ⟨rfl, rfl⟩; rw [HIN.out])
      refine HC.out.mono ?_
      rintro e w1 ⟨rfl, hb1⟩
      go_wp2_with fail
      refine (HW.out w1).mono ?_
      rintro e w2 ⟨A2, c2, rfl, hc2, hP2, hb2⟩
      rw [HBL.out]
      have hB2 := hb1.trans (hb2.mono hb1.size)
      have HS := hide hP2.at_
      clear hP2
      go_wp2_with (go_at_call 104; refine (HLN.out A2 c2 _ hB2 HS.out).mono ?_; rintro e w3 ⟨rfl, hb3⟩)
      go_ret2
      have hB3 := hb.trans ((hB2.trans (hb3.mono hB2.size)).mono hb.size)
      exact ⟨_, 0, rfl, IntsIn.empty _ _ _, by first | exact hB3 | exact hB3.alloc hB3.size _⟩
  · have hno : askC F s.data.toList (inB x 0 4000) ≠ 0 := by rcases h with ⟨h, _⟩ | ⟨h, _⟩ <;> rw [h] <;> decide
    have hrc : roomC F s.data.toList x = askC F s.data.toList (inB x 0 4000) := by
      rcases h with ⟨h, hv, ht, hi⟩ | ⟨h, hn⟩
      · obtain ⟨a1, _, a3⟩ := room_range hv ht hi; rw [a1, a3]
      · obtain ⟨a1, _, a3⟩ := room_inv x hn; rw [a1, a3]
    obtain ⟨p1, p2⟩ := jl_no (F := F) (L := s.data.toList) (x := x) (by rw [hrc]; exact hno)
    rw [p1, p2, hrc]
    generalize askC F s.data.toList (inB x 0 4000) = C at *
    have hd : ((C : Int) != 0) = true := by simpa using hno
    generalize hI : inB x 0 4000 = I at HC
    have HIN := hide hI
    clear h hA BA hr p1 p2 hI hrc
    go_enter Try.func40, Try.ntmps40
    go_wp2_with (go_at_call 103; refine (l01Room_any _ _).mono ?_; rintro e w' ⟨rfl, rfl⟩; rw [HIN.out])
    refine HC.out.mono ?_
    rintro e w1 ⟨rfl, hb1⟩
    go_wp2
    go_ret2
    exact ⟨_, 0, rfl, IntsIn.empty _ _ _, by first | exact hb.trans (hb1.mono hb.size) | exact hb.trans ((hb1.alloc hb1.size _).mono hb.size)⟩
end Go.Proofs.Ytikndeloeeppaaa
