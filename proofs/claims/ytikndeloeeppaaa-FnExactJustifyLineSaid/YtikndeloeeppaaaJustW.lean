/- JustifyLine of the program. -/
import Derived.Test.YtikndeloeeppaaaJustS
import Derived.Test.YtikndeloeeppaaaCentreW
import Derived.StillTailTactics
import Derived.OwnWalk
namespace Go.Proofs.Ytikndeloeeppaaa
open Go Go.RowKit

/-- The spaces, when the first j are made. -/
def jlCells (sp V : Int) (N j : Nat) : List Value := (List.range N).map fun i => .int .i64 (if i < j then jlAt sp V N i else 0)
theorem jlCells_zero (sp V : Int) (N : Nat) : jlCells sp V N 0 = List.replicate N (.int .i64 0) := by
  apply List.ext_getElem <;> simp [jlCells]
theorem jlCells_all (sp V : Int) (N : Nat) : jlCells sp V N N = (jlL sp V N).map (.int .i64) := by
  apply List.ext_getElem
  · simp [jlCells, jlL]
  · intro i h1 h2
    simp only [jlCells, List.length_map, List.length_range] at h1
    simp [jlCells, jlL, h1]
theorem jlCells_set (sp V : Int) (N j : Nat) : (jlCells sp V N j).set j (.int .i64 (jlAt sp V N j)) = jlCells sp V N (j + 1) := by
  apply List.ext_getElem
  · simp [jlCells]
  · intro i h1 h2
    simp only [jlCells, List.length_map, List.length_range] at h2
    rw [List.getElem_set]
    by_cases e : j = i
    · subst e; simp [jlCells]
    · rw [if_neg e]
      simp only [jlCells, List.getElem_map, List.getElem_range]
      by_cases h : i < j
      · rw [if_pos h, if_pos (by omega)]
      · rw [if_neg h, if_neg (by omega)]
theorem jlCells_get (sp V : Int) (N j : Nat) {i : Nat} (h : i < N) : (jlCells sp V N j)[i]? = some (.int .i64 (if i < j then jlAt sp V N i else 0)) := by
  simp [jlCells, List.getElem?_range h]
theorem set_set {α : Type} (l : List α) (j : Nat) (a b : α) : (l.set j a).set j b = l.set j b := by simp

set_option maxRecDepth 100000 in
set_option maxHeartbeats 8000000 in
theorem implJustifyLine_any (F : Fc) (hF : F.ok) (A : Option Addr) (c : Nat) (s : ByteArray) (hs : s.size ≤ maxLen) (x : Int) (hx : (Lit.int .i64 x).wf = true) (w : World) (hA : PairsAt w w.heap.size A F.ps) :
    Calls Try.prog 41 #[.agg (fc F (.slice A F.ps.length c)).toArray, .string s, .int .i64 x] w (IntsBack (jlX F s.data.toList x) (jlC F s.data.toList x) w) := by
  obtain ⟨i0, hi0, hz0, hz1, hz2⟩ := info_parts Try.infoI64
  have hW := hide hF.len
  have hr := rangeAt_new w (fc F (.slice A F.ps.length c)) 32
  have hb : Below w.heap.size w (w.alloc (.cells (fc F (.slice A F.ps.length c)).toArray 32)) := (Below.refl _ _).alloc (Nat.le_refl _) _
  have hs0 : w.heap.size < (w.alloc (.cells (fc F (.slice A F.ps.length c)).toArray 32)).heap.size := by simp
  have HII := hide (show ∀ sl, (Try.prog.info? 32).map (·.size) = some (fc F sl).length from fun sl => by rw [fc_length hW.out]; kernel_rfl)
  have HR := hide (roomOf_any F hF A c s hs x hx _ ((hA.below hb).mono hb.size))
  have HCnt := hide (fun w => Try.strings_Count_one s 32 w)
  obtain ⟨v1, v2⟩ := room_bd hF s.data.toList x
  have HN := hide (fun h => jl_no (F := F) (L := s.data.toList) (x := x) h)
  have HO := hide (fun h => jl_one (F := F) (L := s.data.toList) (x := x) h)
  have HK := hide (fun h => jl_ok (F := F) (L := s.data.toList) (x := x) h)
  have hcc : roomC F s.data.toList x = 0 → vface F = true ∧ Lib.countByte s.data.toList 32 ≤ 60 := fun h => by
    by_cases hok : vface F = true ∧ vtext s.data.toList = true
    · exact ⟨hok.1, count_60 hok.2⟩
    · rw [(room_inv x hok).1] at h; cases h
  generalize jlX F s.data.toList x = R at *
  generalize jlC F s.data.toList x = C at *
  generalize roomC F s.data.toList x = RC at *
  generalize roomV F s.data.toList x = V at *
  generalize Lib.countByte s.data.toList 32 = N at *
  clear hA hx
  by_cases h0 : RC = 0
  · obtain ⟨hv, hc60⟩ := hcc h0
    subst h0
    obtain ⟨sp1, sp2⟩ := sp_bd hv
    by_cases hN : N = 0
    · obtain ⟨p1, p2⟩ := HO.out rfl hN
      rw [p1, p2]
      subst hN
      clear HN HO HK p1 p2 hcc
      go_enter Try.func41, Try.ntmps41
      go_wp2_with (first | (refine wpList_load_mid rfl 32 (.tmp 3) rfl _ 0 rfl _ _ hr Try.underlying32 rfl (HII.out _) ?_) | (go_at_call 105; refine HR.out.mono ?_; rintro e w1 ⟨rfl, hb1⟩) | (go_at_call 106; refine (HCnt.out _).mono ?_; rintro e w2 ⟨rfl, rfl⟩))
      go_ret2
      exact ⟨none, 0, rfl, IntsIn.empty _ _ _, hb.trans (hb1.mono hb.size)⟩
    · obtain ⟨p1, p2⟩ := HK.out rfl hN
      rw [p1, p2]
      have hN1 : (1 : Int) ≤ N := by omega
      have hN0 : ¬ (N : Int) = 0 := by omega
      have hNb : ((N : Int) == 0) = false := by simpa using hN0
      clear HN HO HK p1 p2 hcc
      go_enter Try.func41, Try.ntmps41
      go_wp2_with (refine wpList_load_mid rfl 32 (.tmp 3) rfl _ 0 rfl _ _ hr Try.underlying32 rfl (HII.out _) ?_)
      refine HR.out.mono ?_
      rintro e wq ⟨rfl, hb1⟩
      go_wp2_with fail
      refine (HCnt.out _).mono ?_
      rintro e w1 ⟨rfl, rfl⟩
      have hr1 := rangeAt_below hr hb1 hs0
      have hB1 := hb.trans (hb1.mono hb.size)
      have hlt1 : w.heap.size < w1.heap.size := Nat.lt_of_lt_of_le hs0 hb1.size
      clear hr hb1 HR HCnt
      go_wp2_with (refine wpList_make_full _ rfl (.tmp 27) (.tmp 27) 41 rfl w1.heap.size 2 i0 (.int .i64 0) 1 Try.underlying41 hi0 hz0 hz1 .i64 .i64 _ _ N rfl rfl rfl rfl (by rw [hz2]; omega) (by unfold maxLen; omega) (Nat.le_refl _) ?_; intro w3 hown3 hg3)
      rw [show (madeCells (Value.int .i64 0).cells (N * 1)).toList = jlCells F.sp V N 0 by rw [Nat.mul_one, jlCells_zero]; exact toList_madeCells_one _ _] at hown3
      have hB3 : Below w1.heap.size w1 w3 := grown_toBelow hg3 (Nat.le_refl _) (fun k hk => by cases hk)
      have HO3 := hide hown3
      have hs3 := hB3.size
      clear hown3 hg3
      go_wp2
      go_loopw [12, 31] (fun _ k wr => ∃ j : Nat, j ≤ N ∧ k = .int .i64 j ∧ wr.ownsRow w1.heap.size 2 1 (.slice (some ⟨w1.heap.size, 0, none⟩) N N) N (jlCells F.sp V N j) ∧ Below w1.heap.size w1 wr)
        (fun _ k _ => N - (intOf k).toNat)
      case atStart => exact ⟨0, by omega, rfl, HO3.out, hB3⟩
      case round =>
        obtain ⟨k, hk, rfl, hown, hB⟩ := hrel
        have hsw := hB.size
        by_cases hlt : k < N
        · have hi : (k : Int) < N := by omega
          have h00 : (0 : Int) ≤ k := by omega
          obtain ⟨d0, d1⟩ := quo_bd (V := V) (N := N) v1 v2
          have x26 := rangeAt_cell (rangeAt_below hr1 hB hlt1) (fc_sp hF.len _)
          have e7 := IntWalk.i64_in F.sp ⟨by omega, by omega⟩
          have e8 := IntWalk.i64_in (F.sp + V / N) ⟨by omega, by omega⟩
          have e9 := IntWalk.i64_in (F.sp + V / N + 1) ⟨by omega, by omega⟩
          have HSET := hide (jlCells_set F.sp V N k)
          have HAT1 := hide (fun (h : (k : Int) < V % N) => show jlAt F.sp V N k = F.sp + V / N + 1 by unfold jlAt; rw [if_pos h])
          have HAT2 := hide (fun (h : ¬ (k : Int) < V % N) => show jlAt F.sp V N k = F.sp + V / N by unfold jlAt; rw [if_neg h])
          obtain ⟨u0, hu0⟩ : ∃ u, (jlCells F.sp V N k)[k]? = some u := ⟨_, jlCells_get F.sp V N k hlt⟩
          have c0 := hown.cellAt k (by simp; omega)
          rw [hu0] at c0
          have f0 := hown.frozenAt k
          have HOWN := hide hown
          clear hown hu0
          by_cases hrem : (k : Int) < V % N
          · have HAT := hide (HAT1.out hrem)
            clear HAT1 HAT2
            go_wp2
            go_still_tail 10, (by kernel_rfl)
            change wpList _ _ _ _ _ wr.drew
            go_wp2
            have hs1 := (HOWN.out.stored k (.int .i64 (F.sp + V / N))).1
            have hs2 := (hs1.stored k (.int .i64 (F.sp + V / N + 1))).1
            rw [set_set, ← HAT.out, HSET.out, HAT.out] at hs2
            exact ⟨⟨k + 1, by omega, by go_num, own_go hs2 ((Below.refl _ _).drew), ((hB.setCell (p := ⟨w1.heap.size, k, none⟩) (Nat.le_refl _) _).setCell (p := ⟨w1.heap.size, k, none⟩) (Nat.le_refl _) _).drew⟩, by simp [intOf]; omega⟩
          · have HAT := hide (HAT2.out hrem)
            clear HAT1 HAT2
            go_wp2
            go_still_tail 10, (by kernel_rfl)
            change wpList _ _ _ _ _ wr.drew
            go_wp2
            have hs1 := (HOWN.out.stored k (.int .i64 (F.sp + V / N))).1
            rw [← HAT.out, HSET.out, HAT.out] at hs1
            exact ⟨⟨k + 1, by omega, by go_num, own_go hs1 ((Below.refl _ _).drew), (hB.setCell (p := ⟨w1.heap.size, k, none⟩) (Nat.le_refl _) _).drew⟩, by simp [intOf]; omega⟩
        · obtain rfl : k = N := by omega
          rw [jlCells_all] at hown
          obtain ⟨Ag, cg, e, _, hI⟩ := intsIn_of_own hown
          injection e with e1 e2 e3
          subst e1 e3
          have HI := hide hI
          have hlt' : ¬ (k : Int) < k := by omega
          clear hown hI hr1 hlt
          go_wp2
          go_ret2
          exact ⟨_, _, by rw [jlL_len]; rfl, IntsIn.wider HI.out hB1.size, hB1.trans (hB.mono hB1.size)⟩
  · obtain ⟨p1, p2⟩ := HN.out h0
    rw [p1, p2]
    have hd : ((RC : Int) != 0) = true := by simpa using h0
    have hd0 : ¬ RC = 0 := h0
    clear HN HO HK p1 p2 hcc
    go_enter Try.func41, Try.ntmps41
    go_wp2_with (first | (refine wpList_load_mid rfl 32 (.tmp 3) rfl _ 0 rfl _ _ hr Try.underlying32 rfl (HII.out _) ?_) | (go_at_call 105; refine HR.out.mono ?_; rintro e w1 ⟨rfl, hb1⟩))
    go_ret2
    exact ⟨none, 0, rfl, IntsIn.empty _ _ _, hb.trans (hb1.mono hb.size)⟩
end Go.Proofs.Ytikndeloeeppaaa
