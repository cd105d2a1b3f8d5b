/- BestFill: its data, and BestFill of the model. -/
import Derived.Test.YtajlbfbpkafjfaaF2W
namespace Go.Proofs.Ytajlbfbpkafjfaa
open Go.RowKit

/-- One step to the first of the least. -/
def lstS (o : Option Pr) (p : Pr) : Option Pr := match o with
  | none => some p
  | some q => if p.2 < q.2 then some p else some q
def lstO (xs : List Pr) : Option Pr := xs.foldl lstS none
theorem lstO_app (xs : List Pr) (p : Pr) : lstO (xs ++ [p]) = lstS (lstO xs) p := by simp [lstO]
theorem lstO_nil : lstO [] = none := rfl
def chs (o : Nat → Int) : Nat → List Pr
  | 0 => []
  | k + 1 => if 0 ≤ o k then chs o k ++ [((k : Int), o k)] else chs o k
theorem chs_yes {o : Nat → Int} {k : Nat} (h : 0 ≤ o k) : chs o (k + 1) = chs o k ++ [((k : Int), o k)] := by rw [chs, if_pos h]
theorem chs_no {o : Nat → Int} {k : Nat} (h : ¬ 0 ≤ o k) : chs o (k + 1) = chs o k := by rw [chs, if_neg h]
theorem chs_len (o : Nat → Int) : ∀ k, (chs o k).length ≤ k
  | 0 => Nat.le_refl _
  | k + 1 => by have := chs_len o k; rw [chs]; split <;> simp <;> omega
theorem lst_pos (o : Nat → Int) : ∀ k p, lstO (chs o k) = some p → 0 ≤ p.1
  | 0, p, h => by simp [chs, lstO] at h
  | k + 1, p, h => by
    have ih := lst_pos o k
    by_cases hk : 0 ≤ o k
    · rw [chs_yes hk, lstO_app] at h
      unfold lstS at h
      split at h
      · cases h; show (0 : Int) ≤ k; omega
      · rename_i q hq
        split at h
        · cases h; show (0 : Int) ≤ k; omega
        · cases h; exact ih _ hq
    · rw [chs_no hk] at h; exact ih _ h
noncomputable def bfO (F : Fc) (l r : ByteArray) (ts : List ByteArray) (x : Int) (k : Nat) : Int := offS F (l ++ wA ts (k : Int) ++ r).data.toList x
theorem bfO_at {F : Fc} {l r m : ByteArray} {ts : List ByteArray} {x : Int} {k : Nat} (h : ts[k]? = some m) : bfO F l r ts x k = offS F (l ++ m ++ r).data.toList x := by unfold bfO; rw [wA_at h]
noncomputable def bfR (F : Fc) (l r : ByteArray) (ts : List ByteArray) (x : Int) : Int × Int × Int :=
  if flC F l.data.toList r.data.toList ts x 0 = 0 then (match lstO (chs (bfO F l r ts x) ts.length) with | some p => (p.1, p.2, 0) | none => (0, 0, 6)) else (0, 0, flC F l.data.toList r.data.toList ts x 0)
theorem bf_no {F : Fc} {l r : ByteArray} {ts : List ByteArray} {x : Int} (h : flC F l.data.toList r.data.toList ts x 0 ≠ 0) : bfR F l r ts x = (0, 0, flC F l.data.toList r.data.toList ts x 0) := by unfold bfR; rw [if_neg h]
theorem bf_ok {F : Fc} {l r : ByteArray} {ts : List ByteArray} {x : Int} (h : flC F l.data.toList r.data.toList ts x 0 = 0) : bfR F l r ts x = (match lstO (chs (bfO F l r ts x) ts.length) with | some p => (p.1, p.2, 0) | none => (0, 0, 6)) := by unfold bfR; rw [if_pos h]
def rt3 (v : Int × Int × Int) : Ending := .returned (.tuple #[.int .i64 v.1, .int .i64 v.2.1, .int .i64 v.2.2])
theorem rt3_of {a b c : Int} {v : Int × Int × Int} (h : v = (a, b, c)) : Ending.returned (.tuple #[.int .i64 a, .int .i64 b, .int .i64 c]) = .returned (.tuple #[.int .i64 v.1, .int .i64 v.2.1, .int .i64 v.2.2]) := by subst h; rfl
def st2 (o : Option Pr) : Pr := o.getD (-1, 0)

set_option maxRecDepth 100000 in
set_option maxHeartbeats 8000000 in
theorem specBestFill_any (F : Fc) (hF : F.ok) (A : Option Addr) (c : Nat) (l : ByteArray) (hl : l.size ≤ 1048576) (r : ByteArray) (hr : r.size ≤ 1048576) (T : Option Addr) (ts : List ByteArray) (ct : Nat) (htn : ts.length ≤ maxLen) (htx : ∀ x ∈ ts, x.size ≤ maxLen) (x : Int) (w : World) (hA : PairsAt w w.heap.size A F.ps) (hT : StrsAt w w.heap.size T ts) :
    Calls Try.prog 33 #[.agg (fc F (.slice A F.ps.length c)).toArray, .string l, .string r, .slice T ts.length ct, .int .i64 x] w fun e w' => e = .returned (.tuple #[.int .i64 (bfR F l r ts x).1, .int .i64 (bfR F l r ts x).2.1, .int .i64 (bfR F l r ts x).2.2]) ∧ Below w.heap.size w w' := by
  have r0 := rangeAt_new w (fc F (.slice A F.ps.length c)) 38
  have hb0 : Below w.heap.size w (w.alloc (.cells (fc F (.slice A F.ps.length c)).toArray 38)) := (Below.refl _ _).alloc (Nat.le_refl _) _
  have hs0 : (w.alloc (.cells (fc F (.slice A F.ps.length c)).toArray 38)).heap.size = w.heap.size + 1 := by simp
  have hA0 := (hA.below hb0)
  have hT0 := (hT.below hb0)
  clear hA hT
  generalize hWW : (w.alloc (.cells (fc F (.slice A F.ps.length c)).toArray 38)) = W0 at *
  have hA1 := hA0.mono (show w.heap.size ≤ W0.heap.size by omega)
  have hT1 := hT0.mono (show w.heap.size ≤ W0.heap.size by omega)
  have HAS := hide (l04Asked_any F hF w.heap.size A c l r T ts ct x 0 W0 (by unfold maxLen; omega) (by unfold maxLen; omega) htn htx r0 hA1 hT1)
  by_cases hcode : flC F l.data.toList r.data.toList ts x 0 = 0
  · have HP := hide (bf_ok hcode)
    obtain ⟨z1, z2, z3, _, _, _⟩ := fl_zero hcode
    obtain ⟨hl12, hall⟩ := vlist_true.1 z2
    rw [hcode] at HAS
    have HALL := hide hall
    have HOFF := hide (fun m (hm : m.size ≤ 20) W (hW : Below (w.heap.size + 1) W0 W) =>
      l04Off_any F hF w.heap.size A c (l ++ m ++ r) x W (by rw [append_size, append_size]; omega) z1 z3 (rangeAt_below r0 hW (Nat.lt_succ_self _)) (Nat.lt_of_lt_of_le (show w.heap.size < W0.heap.size by omega) hW.size)
        ((hA0.below (hW.mono (by omega))).mono (Nat.le_trans (show w.heap.size ≤ W0.heap.size by omega) hW.size)))
    have HTT := hide hT0
    have HBO := hide (fun k m => @bfO_at F l r m ts x k)
    have HPOS := hide (lst_pos (bfO F l r ts x))
    have HCY := hide (fun k => @chs_yes (bfO F l r ts x) k)
    have HCN := hide (fun k => @chs_no (bfO F l r ts x) k)
    have HC0 : Hid (lstO (chs (bfO F l r ts x) 0) = none) := hide rfl
    obtain ⟨n, hL⟩ : ∃ n, ts.length = n := ⟨_, rfl⟩
    have HL := hide hL
    rw [hL] at hl12 HAS HP ⊢
    generalize bfR F l r ts x = V at *
    generalize bfO F l r ts x = O at *
    clear hL hall hA1 hT1 hA0 hT0 htn htx r0 hcode
    go_enter Try.func33, Try.ntmps33
    go_wp2_with fail
    refine HAS.out.mono ?_
    rintro e w2 ⟨rfl, hb2⟩
    have hB2 : Below (w.heap.size + 1) W0 w2 := hb2.mono (by omega)
    clear hb2
    go_wp2
    go_loopw [14, 15, 16] (fun b1 b2 i wr => ∃ k : Nat, k ≤ n ∧ i = .int .i64 k ∧ b1 = .int .i64 (st2 (lstO (chs O k))).1 ∧ b2 = .int .i64 (st2 (lstO (chs O k))).2 ∧ Below (w.heap.size + 1) W0 wr)
      (fun _ _ i _ => n - (intOf i).toNat)
    case atStart => exact ⟨0, by omega, rfl, by rw [HC0.out]; rfl, by rw [HC0.out]; rfl, hB2⟩
    case round =>
      obtain ⟨k, hk, rfl, rfl, rfl, hB⟩ := hrel
      have hbs := hB.size
      by_cases hlt : k < n
      · obtain ⟨b, o, rfl, hb, hxs⟩ := HTT.out (by intro e; rw [e] at HL; have := HL.out; simp at this; omega)
        obtain ⟨m, hmk⟩ : ∃ m, ts[k]? = some m := ⟨ts[k]'(by rw [HL.out]; exact hlt), List.getElem?_eq_getElem _⟩
        have c0 : wr.cell? ⟨b, o + k, none⟩ = some (.string m) := (hB.cell (p := ⟨b, o + k, none⟩) (show b < w.heap.size + 1 by omega)).trans (hxs k m hmk)
        have hi : (k : Int) < n := by omega
        have h0 : (0 : Int) ≤ k := by omega
        have hms := (lw_true (lw_mem HALL.out (List.mem_of_getElem? hmk))).2.1
        have HOF := hide (HOFF.out m hms wr hB)
        have HOV := hide (HBO.out k m hmk)
        have HY := hide (HCY.out k)
        have HN := hide (HCN.out k)
        have HPS := hide (HPOS.out k)
        rw [← HOV.out] at HOF
        have hlm : (l ++ m).size ≤ maxLen := by rw [append_size]; unfold maxLen; omega
        have hlmr : (l ++ m ++ r).size ≤ maxLen := by rw [append_size, append_size]; unfold maxLen; omega
        unfold maxLen at hlm hlmr
        clear hxs hmk
        generalize hU : O k = U at *
        by_cases hU0 : 0 ≤ U
        · have HL1 := hide (congrArg lstO (HY.out hU0))
          rw [lstO_app] at HL1
          have hd0 : decide (0 ≤ U) = true := by simpa using hU0
          cases hst : lstO (chs O k) with
          | none =>
            rw [hst] at HL1
            have HL2 : Hid (lstO (chs O (k + 1)) = some ((k : Int), U)) := HL1
            go_wp2_with fail
            refine HOF.out.mono ?_
            rintro e w3 ⟨rfl, hb3⟩
            have hB3 := hB.trans (hb3.mono (Nat.le_trans (by omega) hB.size))
            clear c0
            go_wp2
            exact ⟨⟨k + 1, by omega, by go_num, by rw [HL2.out]; rfl, by rw [HL2.out]; rfl, hB3⟩, by simp [intOf]; omega⟩
          | some q =>
            rw [hst] at HL1
            have hq0 := HPS.out q hst
            have hdq : decide (q.1 < 0) = false := by simp; omega
            have hq1 : (st2 (some q)).1 = q.1 := rfl
            have hq2 : (st2 (some q)).2 = q.2 := rfl
            rw [hq1, hq2]
            by_cases hlt2 : U < q.2
            · have HL2 : Hid (lstO (chs O (k + 1)) = some ((k : Int), U)) := hide (HL1.out.trans (by show (if U < q.2 then _ else _) = _; rw [if_pos hlt2]))
              have hd1 : decide (U < q.2) = true := by simpa using hlt2
              go_wp2_with fail
              refine HOF.out.mono ?_
              rintro e w3 ⟨rfl, hb3⟩
              have hB3 := hB.trans (hb3.mono (Nat.le_trans (by omega) hB.size))
              clear c0
              go_wp2
              exact ⟨⟨k + 1, by omega, by go_num, by rw [HL2.out]; rfl, by rw [HL2.out]; rfl, hB3⟩, by simp [intOf]; omega⟩
            · have HL2 : Hid (lstO (chs O (k + 1)) = some q) := hide (HL1.out.trans (by show (if U < q.2 then _ else _) = _; rw [if_neg hlt2]))
              have hd1 : decide (U < q.2) = false := by simpa using hlt2
              go_wp2_with fail
              refine HOF.out.mono ?_
              rintro e w3 ⟨rfl, hb3⟩
              have hB3 := hB.trans (hb3.mono (Nat.le_trans (by omega) hB.size))
              clear c0
              go_wp2
              exact ⟨⟨k + 1, by omega, by go_num, by rw [HL2.out]; rfl, by rw [HL2.out]; rfl, hB3⟩, by simp [intOf]; omega⟩
        · have HE := hide (HN.out (by omega))
          have hd0 : decide (0 ≤ U) = false := by simpa using hU0
          go_wp2_with fail
          refine HOF.out.mono ?_
          rintro e w3 ⟨rfl, hb3⟩
          have hB3 := hB.trans (hb3.mono (Nat.le_trans (by omega) hB.size))
          clear c0
          go_wp2
          exact ⟨⟨k + 1, by omega, by go_num, by rw [HE.out], by rw [HE.out], hB3⟩, by simp [intOf]; omega⟩
      · obtain rfl : k = n := by omega
        cases hst : lstO (chs O k) with
        | none =>
          rw [hst] at HP
          have HV : Hid (V = (0, 0, 6)) := HP
          go_wp2
          go_ret3
          exact ⟨rt3_of HV.out, hb0.trans (hB.mono (by omega))⟩
        | some q =>
          rw [hst] at HP
          have HV : Hid (V = (q.1, q.2, 0)) := HP
          have hq0 := HPOS.out k q hst
          have hdq : decide (q.1 < 0) = false := by simp; omega
          have hq1 : (st2 (some q)).1 = q.1 := rfl
          have hq2 : (st2 (some q)).2 = q.2 := rfl
          rw [hq1, hq2]
          go_wp2
          go_ret3
          exact ⟨rt3_of HV.out, hb0.trans (hB.mono (by omega))⟩
  · have HP := hide (bf_no hcode)
    have hd : (flC F l.data.toList r.data.toList ts x 0 != 0) = true := by simpa using hcode
    have HNE := hide hcode
    clear hA1 hT1 hA0 hT0 htn htx hcode r0
    generalize bfR F l r ts x = V at *
    generalize flC F l.data.toList r.data.toList ts x 0 = C at *
    generalize ts.length = n at *
    go_enter Try.func33, Try.ntmps33
    go_wp2_with fail
    refine HAS.out.mono ?_
    rintro e w2 ⟨rfl, hb2⟩
    go_wp2
    go_ret3
    exact ⟨rt3_of HP.out, hb0.trans (hb2.mono (by omega))⟩
end Go.Proofs.Ytajlbfbpkafjfaa
