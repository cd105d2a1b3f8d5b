/- Books of the model: StockAfter, FirstShort, LeastStart. -/
import Derived.Test.YtjgcadohjccfaaaBkP
import Derived.Test.YtjgcadohjccfaaaG2
import Derived.Test.YtjgcadohjccfaaaFlP
namespace Go.Proofs.Ytjgcadohjccfaaa
open Go Go.RowKit

set_option maxHeartbeats 1000000 in
theorem l06Budget_any (x : Int) (w : World) :
    Calls Try.prog 96 #[.int .i64 x] w fun e w' => e = .returned (.bool (inB x 0 1000000)) ∧ w = w' := by
  go_enter Try.func96, Try.ntmps96
  go_wp2_with (go_at_call 84; refine (l00In_any _ _ _ _).mono ?_; rintro e w' ⟨rfl, rfl⟩)
  go_ret
  exact ⟨rfl, rfl⟩

set_option maxRecDepth 100000 in
set_option maxHeartbeats 4000000 in
theorem l06Book_any (st : Int) (A : Option Addr) (xs : List Int) (c : Nat) (w : World) (hn : xs.length ≤ maxLen) (hA : IntsAt w w.heap.size A xs) :
    Calls Try.prog 78 #[.int .i64 st, .slice A xs.length c] w fun e w' => e = .returned (.int .i64 (bkC st xs)) ∧ w = w' := by
  unfold maxLen at hn
  obtain ⟨C, hC⟩ : ∃ C, bkC st xs = C := ⟨_, rfl⟩
  have HCC := hide hC
  rw [hC]
  obtain ⟨fine, hf0⟩ : ∃ b, inB st 0 1000000 = b := ⟨_, rfl⟩
  have HF := hide hf0
  clear hC
  go_enter Try.func78, Try.ntmps78
  go_wp2_with (go_at_call 96; refine (l06Budget_any _ _).mono ?_; rintro e w' ⟨rfl, rfl⟩; rw [HF.out])
  clear hf0
  go_loop [5, 6] (fun fi i => ∃ k : Nat, k ≤ xs.length ∧ i = .int .i64 k ∧ fi = .bool (fine && (xs.take k).all bokB)) (fun _ i => xs.length - (intOf i).toNat)
  case atStart => exact ⟨0, Nat.zero_le _, rfl, by simp⟩
  case round =>
    obtain ⟨k, hk, rfl, rfl⟩ := hrel
    by_cases hlt : k < xs.length
    · obtain ⟨b, o, rfl, hb, hxs⟩ := hA (by intro e; rw [e] at hlt; simp at hlt)
      obtain ⟨x, hxk⟩ : ∃ x, xs[k]? = some x := ⟨xs[k]'hlt, List.getElem?_eq_getElem _⟩
      have hc := hxs k x hxk
      have hi : (k : Int) < xs.length := by omega
      have h0 : (0 : Int) ≤ k := by omega
      have HT := hide (all_take_succ (p := bokB) hxk)
      have HB := hide (show bokB x = inB x (-1000) 1000 from rfl)
      clear hxs hxk
      generalize (xs.take k).all bokB = r at HT ⊢
      cases hf : (fine && r)
      · go_wp2
        exact ⟨⟨k + 1, by omega, by go_num, by rw [HT.out, ← Bool.and_assoc, hf]; rfl⟩, by simp [intOf]; omega⟩
      · go_wp2_with (go_at_call 84; refine (l00In_any _ _ _ _).mono ?_; rintro e w' ⟨rfl, rfl⟩)
        exact ⟨⟨k + 1, by omega, by go_num, by rw [HT.out, ← Bool.and_assoc, hf, HB.out]; rfl⟩, by simp [intOf]; omega⟩
    · obtain rfl : k = xs.length := by omega
      rw [List.take_length]
      cases hf : (fine && xs.all bokB)
      · have HE := hide (HCC.out.symm.trans (bk_bad (by rw [HF.out]; exact hf)))
        go_wp2
        go_ret
        exact ⟨ret_int HE.out.symm, rfl⟩
      · by_cases hm : (60 : Int) < xs.length
        · have HE := hide (HCC.out.symm.trans (bk_many (by rw [HF.out]; exact hf) (show 60 < xs.length by omega)))
          have hd : decide ((60 : Int) < (xs.length : Int)) = true := by simpa using hm
          have hd' : decide (60 < xs.length) = true := by simp; omega
          go_wp2
          go_ret
          exact ⟨ret_int HE.out.symm, rfl⟩
        · have hd : decide ((60 : Int) < (xs.length : Int)) = false := by simp; omega
          have hd' : decide (60 < xs.length) = false := by simp; omega
          have HE := hide (HCC.out.symm.trans (bk_ok (by rw [HF.out]; exact hf) (show ¬ 60 < xs.length by omega)))
          go_wp2
          go_ret
          exact ⟨ret_int HE.out.symm, rfl⟩

set_option maxRecDepth 100000 in
set_option maxHeartbeats 4000000 in
theorem l06Short_any (st : Int) (A : Option Addr) (xs : List Int) (c : Nat) (w : World) (hs : 0 ≤ st ∧ st ≤ 1000000) (hx : ∀ x ∈ xs, -1000 ≤ x ∧ x ≤ 1000) (hn : xs.length ≤ 60) (hA : IntsAt w w.heap.size A xs) :
    Calls Try.prog 79 #[.int .i64 st, .slice A xs.length c] w fun e w' => e = .returned (.int .i64 (bkS st xs xs.length)) ∧ w = w' := by
  have HBD := hide (bkN_bd (st := st) hx)
  have HX := hide hx
  have HSB := hide (fun (k : Nat) (h : bkS st xs k = -1) (hn : bkN st xs (k + 1) < 0) => bkS_hit h hn)
  have HSM := hide (fun (k : Nat) (h : bkS st xs k = -1) (hn : ¬ bkN st xs (k + 1) < 0) => bkS_miss h hn)
  have HSS := hide (fun (k : Nat) (h : 0 ≤ bkS st xs k) => bkS_stay (k := k) h)
  have HA := hide hA
  obtain ⟨hs1, hs2⟩ := hs
  obtain ⟨n, hN⟩ : ∃ n, xs.length = n := ⟨_, rfl⟩
  have HN := hide hN
  rw [hN] at hn HBD ⊢
  clear hN hx hA
  go_enter Try.func79, Try.ntmps79
  go_wp2
  go_loop [0, 5] (fun v i => ∃ k : Nat, k ≤ n ∧ i = .int .i64 k ∧ v = .int .i64 (bkN st xs k) ∧ Hid (bkS st xs k = -1)) (fun _ i => n - (intOf i).toNat)
  case atStart => exact ⟨0, Nat.zero_le _, rfl, rfl, hide rfl⟩
  case round =>
    obtain ⟨k, hk, rfl, rfl, hg⟩ := hrel
    by_cases hlt : k < n
    · obtain ⟨b, o, rfl, hb, hxs⟩ := HA.out (by intro e; rw [e] at HN; have := HN.out; simp at this; omega)
      obtain ⟨x, hxk⟩ : ∃ x, xs[k]? = some x := ⟨xs[k]'(by rw [HN.out]; exact hlt), List.getElem?_eq_getElem _⟩
      have hc := hxs k x hxk
      obtain ⟨x1, x2⟩ := HX.out x (List.mem_of_getElem? hxk)
      have HS := hide (bkN_succ (st := st) hxk)
      obtain ⟨b1, b2⟩ := HBD.out k hk
      have hi : (k : Int) < n := by omega
      have h0 : (0 : Int) ≤ k := by omega
      clear hxs hxk
      obtain ⟨q, hq⟩ : ∃ q, bkN st xs k = q := ⟨_, rfl⟩
      have HQ := hide hq
      rw [hq] at b1 b2 ⊢
      clear hq
      cases hneg : decide (q + x < 0)
      · have HE := hide (HSM.out _ hg.out (by rw [HS.out, HQ.out]; simpa using hneg))
        go_wp2
        exact ⟨⟨k + 1, by omega, by go_num, by rw [HS.out, HQ.out], HE⟩, by simp [intOf]; omega⟩
      · have HE := hide (HSB.out _ hg.out (by rw [HS.out, HQ.out]; simpa using hneg))
        have HF := hide (HSS.out (k + 1) (by rw [HE.out]; omega) n (by omega))
        go_wp2
        go_ret
        exact ⟨ret_int (by rw [HF.out, HE.out]), rfl⟩
    · obtain rfl : k = n := by omega
      go_wp2
      go_ret
      exact ⟨ret_int hg.out.symm, rfl⟩

set_option maxRecDepth 100000 in
set_option maxHeartbeats 8000000 in
theorem specStockAfter_any (st : Int) (hst : (Lit.int .i64 st).wf = true) (A : Option Addr) (xs : List Int) (c : Nat) (hn : xs.length ≤ maxLen) (w : World) (hA : IntsAt w w.heap.size A xs) :
    Calls Try.prog 43 #[.int .i64 st, .slice A xs.length c] w (IntsBack (saR st xs) (saC st xs) w) := by
  obtain ⟨i0, hi0, hz0, hz1, hz2⟩ := info_parts Try.infoI64
  have HBO := hide (fun W h => l06Book_any st A xs c W hn h)
  have HA := hide hA
  by_cases h0 : bkC st xs = 0
  · obtain ⟨hs, hx, hn60⟩ := bk_zero h0
    have HSH := hide (fun W h => l06Short_any st A xs c W hs hx hn60 h)
    rw [h0] at HBO
    by_cases hsh : 0 ≤ bkS st xs xs.length
    · obtain ⟨e1, e2⟩ := sa_short h0 hsh
      rw [e1, e2]
      generalize bkS st xs xs.length = S at *
      have hd : decide (0 ≤ S) = true := by simpa using hsh
      unfold maxLen at hn
      clear h0 hs hx e1 e2 hsh hA hst
      go_enter Try.func43, Try.ntmps43
      go_wp2_with (first | (go_at_call 78; refine (HBO.out _ (HA.out.go ((Below.refl _ _).alloc (Nat.le_refl _) _))).mono ?_; rintro e w1 ⟨rfl, rfl⟩) | (go_at_call 79; refine (HSH.out _ (HA.out.go ((Below.refl _ _).alloc (Nat.le_refl _) _))).mono ?_; rintro e w1 ⟨rfl, rfl⟩))
      go_ret2
      exact ⟨_, _, rfl, IntsIn.empty _ _ _, (Below.refl _ _).alloc (Nat.le_refl _) _⟩
    · obtain ⟨e1, e2⟩ := sa_ok h0 hsh
      rw [e1, e2]
      have HBD := hide (bkN_bd (st := st) hx)
      have HX := hide hx
      obtain ⟨hs1, hs2⟩ := hs
      generalize bkS st xs xs.length = S at *
      have hd : decide (0 ≤ S) = false := by simpa using hsh
      obtain ⟨n, hN⟩ : ∃ n, xs.length = n := ⟨_, rfl⟩
      have HN := hide hN
      have HTL := hide (bkT_len st xs n)
      rw [hN] at hn60 HBD HBO HSH ⊢
      clear h0 hx e1 e2 hsh hA hst hn hN
      go_enter Try.func43, Try.ntmps43
      go_wp2_with (first | (go_at_call 78; refine (HBO.out _ (HA.out.go ((Below.refl _ _).alloc (Nat.le_refl _) _))).mono ?_; rintro e w1 ⟨rfl, rfl⟩) | (go_at_call 79; refine (HSH.out _ (HA.out.go ((Below.refl _ _).alloc (Nat.le_refl _) _))).mono ?_; rintro e w1 ⟨rfl, rfl⟩))
      go_loopw [0, 6, 8] (fun v br i wr => ∃ k : Nat, k ≤ n ∧ i = .int .i64 k ∧ v = .int .i64 (bkN st xs k) ∧ wr.ownsRow w.heap.size 2 1 br k ((bkT st xs k).map (.int .i64)) ∧ Below w.heap.size w wr)
        (fun _ _ i _ => n - (intOf i).toNat)
      case atStart => exact ⟨0, Nat.zero_le _, rfl, rfl, World.ownsRow_made w _ 0 (Nat.le_refl _) (by unfold maxLen; omega) rfl, (Below.refl _ _).alloc (Nat.le_refl _) _⟩
      case round =>
        obtain ⟨k, hk, rfl, rfl, hown, hB⟩ := hrel
        obtain ⟨Ab, cbb, rfl, hcap, _⟩ := cellsIn_of_own hown (by omega)
        have hbs := hB.size
        have HOWN := hide hown
        have HTU := hide (bkT_succ st xs k)
        clear hown
        by_cases hlt : k < n
        · obtain ⟨b, o, rfl, hb, hxs⟩ := HA.out (by intro e; rw [e] at HN; have := HN.out; simp at this; omega)
          obtain ⟨x, hxk⟩ : ∃ x, xs[k]? = some x := ⟨xs[k]'(by rw [HN.out]; exact hlt), List.getElem?_eq_getElem _⟩
          have c0 : wr.cell? ⟨b, o + k, none⟩ = some (.int .i64 x) := (hB.cell (p := ⟨b, o + k, none⟩) hb).trans (hxs k x hxk)
          obtain ⟨x1, x2⟩ := HX.out x (List.mem_of_getElem? hxk)
          have HS := hide (bkN_succ (st := st) hxk)
          obtain ⟨b1, b2⟩ := HBD.out k hk
          have hi : (k : Int) < n := by omega
          have h0 : (0 : Int) ≤ k := by omega
          clear hxs hxk
          obtain ⟨q, hq⟩ : ∃ q, bkN st xs k = q := ⟨_, rfl⟩
          have HQ := hide hq
          rw [hq] at b1 b2 ⊢
          clear hq
          go_wp2_with (at_builtin; refine wpList_append_own _ rfl (.tmp 37) (.tmp 39) 35 rfl w.heap.size 2 i0 (.int .i64 0) 1 8 Try.underlying35 hi0 hz0 hz1 hz2 rfl (by decide) _ k _ rfl (HOWN.out.alloc _) ⟨wr.heap.size, 0, none⟩ 1 1 [.int .i64 (q + x)] rfl rfl (one_cell _) (one_one rfl) ?h1 ?h2 ?h3 ?_)
          case h1 => unfold maxLen; omega
          case h2 => omega
          case h3 => first | omega | (simp; omega) | simp
          intro v' w4 hown4 hg4 _
          obtain ⟨A4, c4, rfl, _, _⟩ := cellsIn_of_own hown4 (by omega)
          have H4 := hide hown4
          have hg34 : wr.grownBy w4 _ := grown_trans (World.grownBy_alloc wr _ _) hg4
          have hB4 := hB.trans (grown_toBelow hg34 (by omega) (fun k hk => (HOWN.out.lt k hk).1))
          clear hown4 hg4 hg34
          go_wp2
          refine ⟨⟨k + 1, by omega, by go_num, by rw [HS.out, HQ.out], ?_, hB4⟩, by simp [intOf]; omega⟩
          rw [HTU.out, List.map_append, HS.out, HQ.out]
          exact H4.out
        · obtain rfl : k = n := by omega
          obtain ⟨Ag, cg, e, _, hI⟩ := intsIn_of_own HOWN.out
          injection e with e1 e2 e3
          subst e1 e3
          have HI := hide hI
          clear hI
          go_wp2
          go_ret2
          exact ⟨Ab, cbb, by rw [HTL.out]; rfl, HI.out, hB⟩
  · obtain ⟨e1, e2⟩ := sa_bad h0
    rw [e1, e2]
    generalize bkC st xs = C at *
    have hC : (C != 0) = true := by simpa using h0
    have hC' : (C == 0) = false := by simpa using h0
    unfold maxLen at hn
    clear h0 e1 e2 hA hst
    go_enter Try.func43, Try.ntmps43
    go_wp2_with (go_at_call 78; refine (HBO.out _ (HA.out.go ((Below.refl _ _).alloc (Nat.le_refl _) _))).mono ?_; rintro e w1 ⟨rfl, rfl⟩)
    go_ret2
    exact ⟨_, _, rfl, IntsIn.empty _ _ _, (Below.refl _ _).alloc (Nat.le_refl _) _⟩

set_option maxRecDepth 100000 in
set_option maxHeartbeats 4000000 in
theorem specFirstShort_any (st : Int) (hst : (Lit.int .i64 st).wf = true) (A : Option Addr) (xs : List Int) (c : Nat) (hn : xs.length ≤ maxLen) (w : World) (hA : IntsAt w w.heap.size A xs) :
    Calls Try.prog 45 #[.int .i64 st, .slice A xs.length c] w fun e w' => e = .returned (.tuple #[.int .i64 (fsV st xs), .int .i64 (fsC st xs)]) ∧ Below w.heap.size w w' := by
  have HBO := hide (l06Book_any st A xs c w hn hA)
  by_cases h0 : bkC st xs = 0
  · obtain ⟨hs, hx, hn60⟩ := bk_zero h0
    have HSH := hide (l06Short_any st A xs c w hs hx hn60 hA)
    rw [h0] at HBO
    by_cases hsh : 0 ≤ bkS st xs xs.length
    · obtain ⟨e1, e2⟩ := fs_some h0 hsh
      rw [e1, e2]
      generalize bkS st xs xs.length = S at *
      have hd : decide (S < 0) = false := by simpa using hsh
      unfold maxLen at hn
      clear h0 hs hx e1 e2 hsh hA hst
      go_enter Try.func45, Try.ntmps45
      go_wp2_with (first | (go_at_call 78; refine HBO.out.mono ?_; rintro e w1 ⟨rfl, rfl⟩) | (go_at_call 79; refine HSH.out.mono ?_; rintro e w1 ⟨rfl, rfl⟩))
      go_ret2
      exact ⟨rfl, Below.refl _ _⟩
    · obtain ⟨e1, e2⟩ := fs_none h0 hsh
      rw [e1, e2]
      generalize bkS st xs xs.length = S at *
      have hd : decide (S < 0) = true := by simp; omega
      unfold maxLen at hn
      clear h0 hs hx e1 e2 hsh hA hst
      go_enter Try.func45, Try.ntmps45
      go_wp2_with (first | (go_at_call 78; refine HBO.out.mono ?_; rintro e w1 ⟨rfl, rfl⟩) | (go_at_call 79; refine HSH.out.mono ?_; rintro e w1 ⟨rfl, rfl⟩))
      go_ret2
      exact ⟨rfl, Below.refl _ _⟩
  · obtain ⟨e1, e2⟩ := fs_bad h0
    rw [e1, e2]
    generalize bkC st xs = C at *
    have hC : (C != 0) = true := by simpa using h0
    unfold maxLen at hn
    clear h0 e1 e2 hA hst
    go_enter Try.func45, Try.ntmps45
    go_wp2_with (go_at_call 78; refine HBO.out.mono ?_; rintro e w1 ⟨rfl, rfl⟩)
    go_ret2
    exact ⟨rfl, Below.refl _ _⟩

set_option maxRecDepth 100000 in
set_option maxHeartbeats 4000000 in
theorem specLeastStart_any (A : Option Addr) (xs : List Int) (c : Nat) (hn : xs.length ≤ maxLen) (w : World) (hA : IntsAt w w.heap.size A xs) :
    Calls Try.prog 47 #[.slice A xs.length c] w fun e w' => e = .returned (.tuple #[.int .i64 (leV xs), .int .i64 (leC xs)]) ∧ Below w.heap.size w w' := by
  have HBO := hide (l06Book_any 0 A xs c w hn hA)
  unfold leV leC
  by_cases h0 : bkC 0 xs = 0
  · obtain ⟨hs, hx, hn60⟩ := bk_zero h0
    rw [h0] at HBO ⊢
    rw [if_pos rfl]
    have HBD := hide (bkN_bd (st := 0) hx)
    have HMB := hide (bkM_bd hx)
    have HX := hide hx
    have HA := hide hA
    have HMS := hide (fun k => show bkM xs (k + 1) = max (bkM xs k) (-(bkN 0 xs (k + 1))) from rfl)
    obtain ⟨n, hN⟩ : ∃ n, xs.length = n := ⟨_, rfl⟩
    have HN := hide hN
    rw [hN] at hn60 HBD HMB HBO ⊢
    clear h0 hs hx hA hn hN
    go_enter Try.func47, Try.ntmps47
    go_wp2_with (go_at_call 78; refine HBO.out.mono ?_; rintro e w1 ⟨rfl, rfl⟩)
    go_loop [5, 6, 7] (fun v m i => ∃ k : Nat, k ≤ n ∧ i = .int .i64 k ∧ v = .int .i64 (bkN 0 xs k) ∧ m = .int .i64 (bkM xs k)) (fun _ _ i => n - (intOf i).toNat)
    case atStart => exact ⟨0, Nat.zero_le _, rfl, rfl, rfl⟩
    case round =>
      obtain ⟨k, hk, rfl, rfl, rfl⟩ := hrel
      by_cases hlt : k < n
      · obtain ⟨b, o, rfl, hb, hxs⟩ := HA.out (by intro e; rw [e] at HN; have := HN.out; simp at this; omega)
        obtain ⟨x, hxk⟩ : ∃ x, xs[k]? = some x := ⟨xs[k]'(by rw [HN.out]; exact hlt), List.getElem?_eq_getElem _⟩
        have hc := hxs k x hxk
        obtain ⟨x1, x2⟩ := HX.out x (List.mem_of_getElem? hxk)
        have HS := hide (bkN_succ (st := 0) hxk)
        have HM := hide (HMS.out k)
        obtain ⟨b1, b2⟩ := HBD.out k hk
        obtain ⟨m1, m2⟩ := HMB.out k hk
        have hi : (k : Int) < n := by omega
        have h0 : (0 : Int) ≤ k := by omega
        clear hxs hxk
        rw [HS.out] at HM
        generalize bkN 0 xs k = q at *
        generalize bkM xs k = m at *
        go_wp2_with (go_at_call 83; refine (l00Max_any _ _ _).mono ?_; rintro e w3 ⟨rfl, rfl⟩)
        exact ⟨⟨k + 1, by omega, by go_num, by rw [HS.out], by rw [HM.out]⟩, by simp [intOf]; omega⟩
      · obtain rfl : k = n := by omega
        go_wp2
        go_ret2
        exact ⟨rfl, Below.refl _ _⟩
  · rw [if_neg h0]
    generalize bkC 0 xs = C at *
    have hC : (C != 0) = true := by simpa using h0
    unfold maxLen at hn
    clear h0 hA
    go_enter Try.func47, Try.ntmps47
    go_wp2_with (go_at_call 78; refine HBO.out.mono ?_; rintro e w1 ⟨rfl, rfl⟩)
    go_ret2
    exact ⟨rfl, Below.refl _ _⟩
end Go.Proofs.Ytjgcadohjccfaaa
