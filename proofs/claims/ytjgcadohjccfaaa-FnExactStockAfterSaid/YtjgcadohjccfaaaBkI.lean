/- Books of the program: StockAfter, FirstShort, LeastStart. -/
import Derived.Test.YtjgcadohjccfaaaBkP
import Derived.Test.YtjgcadohjccfaaaG2
namespace Go.Proofs.Ytjgcadohjccfaaa
open Go Go.RowKit

set_option maxHeartbeats 1000000 in
theorem bookCheck1_any (x : Int) (w : World) :
    Calls Try.prog 97 #[.int .i64 x] w fun e w' => e = .returned (.bool (bokB x)) ∧ Below w.heap.size w w' := by
  have HT := hide (show bokB x = inB x (-1000) 1000 from rfl)
  go_enter Try.func97, Try.ntmps97
  go_wp2_with (go_at_call 50; refine (between_any _ _ _ _).mono ?_; rintro e w' ⟨rfl, rfl⟩)
  go_ret
  exact ⟨ret_bool HT.out.symm, Below.refl _ _⟩

set_option maxRecDepth 100000 in
set_option maxHeartbeats 4000000 in
theorem bookCheck_any (A : Option Addr) (xs : List Int) (c : Nat) (st : Int) (w : World) (hn : xs.length ≤ maxLen) (hA : IntsAt w w.heap.size A xs) :
    Calls Try.prog 80 #[.slice A xs.length c, .int .i64 st] w fun e w' => e = .returned (.int .i64 (bkC st xs)) ∧ Below w.heap.size w w' := by
  have HC := hide (areAllI_any _ (enters_of Try.func97 (by kernel_rfl) rfl) bokB A xs c w hn hA (fun x _ W _ => bookCheck1_any x W))
  unfold maxLen at hn
  obtain ⟨C, hC⟩ : ∃ C, bkC st xs = C := ⟨_, rfl⟩
  rw [hC]
  cases hf : inB st 0 1000000
  · have e := bk_bad (st := st) (xs := xs) (by rw [hf]; rfl)
    have HE := hide (hC.symm.trans e)
    clear hC e
    go_enter Try.func80, Try.ntmps80
    go_wp2_with (go_at_call 50; refine (between_any _ _ _ _).mono ?_; rintro e w' ⟨rfl, rfl⟩; simp only [hf])
    go_ret
    exact ⟨ret_int HE.out.symm, Below.refl _ _⟩
  · cases hb : xs.all bokB
    · have e := bk_bad (st := st) (xs := xs) (by rw [hf, hb]; rfl)
      have HE := hide (hC.symm.trans e)
      rw [hb] at HC
      clear hC e
      go_enter Try.func80, Try.ntmps80
      go_wp2_with (first | (go_at_call 50; refine (between_any _ _ _ _).mono ?_; rintro e w' ⟨rfl, rfl⟩; simp only [hf]) | (go_at_call 93; refine HC.out.mono ?_; rintro e w1 ⟨rfl, hb1⟩))
      go_ret
      exact ⟨ret_int HE.out.symm, hb1⟩
    · rw [hb] at HC
      by_cases hm : 60 < xs.length
      · have e := bk_many (st := st) (xs := xs) (by rw [hf, hb]; rfl) hm
        have HE := hide (hC.symm.trans e)
        have hd : decide ((60 : Int) < (xs.length : Int)) = true := by simp; omega
        have hd' : decide (60 < xs.length) = true := by simp; omega
        clear hC e hm
        go_enter Try.func80, Try.ntmps80
        go_wp2_with (first | (go_at_call 50; refine (between_any _ _ _ _).mono ?_; rintro e w' ⟨rfl, rfl⟩; simp only [hf]) | (go_at_call 93; refine HC.out.mono ?_; rintro e w1 ⟨rfl, hb1⟩))
        go_ret
        exact ⟨ret_int HE.out.symm, hb1⟩
      · have e := bk_ok (st := st) (xs := xs) (by rw [hf, hb]; rfl) hm
        have HE := hide (hC.symm.trans e)
        have hd : decide ((60 : Int) < (xs.length : Int)) = false := by simp; omega
        have hd' : decide (60 < xs.length) = false := by simp; omega
        clear hC e hm
        go_enter Try.func80, Try.ntmps80
        go_wp2_with (first | (go_at_call 50; refine (between_any _ _ _ _).mono ?_; rintro e w' ⟨rfl, rfl⟩; simp only [hf]) | (go_at_call 93; refine HC.out.mono ?_; rintro e w1 ⟨rfl, hb1⟩))
        go_ret
        exact ⟨ret_int HE.out.symm, hb1⟩

set_option maxRecDepth 100000 in
set_option maxHeartbeats 8000000 in
theorem bookStock_any (A : Option Addr) (xs : List Int) (c : Nat) (st : Int) (w : World) (hs : 0 ≤ st ∧ st ≤ 1000000) (hx : ∀ x ∈ xs, -1000 ≤ x ∧ x ≤ 1000) (hn : xs.length ≤ 60) (hA : IntsAt w w.heap.size A xs) :
    Calls Try.prog 81 #[.slice A xs.length c, .int .i64 st] w (IntsB (bkT st xs xs.length) w) := by
  obtain ⟨i0, hi0, hz0, hz1, hz2⟩ := info_parts Try.infoI64
  have HBD := hide (bkN_bd (st := st) hx)
  have HX := hide hx
  have HA := hide hA
  obtain ⟨hs1, hs2⟩ := hs
  obtain ⟨n, hN⟩ : ∃ n, xs.length = n := ⟨_, rfl⟩
  have HN := hide hN
  have HTL := hide (bkT_len st xs n)
  rw [hN] at hn HBD ⊢
  clear hN hx hA
  go_enter Try.func81, Try.ntmps81
  go_wp2
  go_loopw [1, 5, 10] (fun v br i wr => ∃ k : Nat, k ≤ n ∧ i = .int .i64 k ∧ v = .int .i64 (bkN st xs k) ∧ wr.ownsRow w.heap.size 2 1 br k ((bkT st xs k).map (.int .i64)) ∧ Below w.heap.size w wr)
    (fun _ _ i _ => n - (intOf i).toNat)
  case atStart => exact ⟨0, Nat.zero_le _, rfl, rfl, World.ownsRow_nil _ _ _ _, Below.refl _ _⟩
  case round =>
    obtain ⟨k, hk, rfl, rfl, hown, hB⟩ := hrel
    obtain ⟨Ab, cbb, rfl, hcap, _⟩ := cellsIn_of_own hown (by omega)
    have hbs := hB.size
    have HOWN := hide hown
    have HTU := hide (bkT_succ st xs k)
    clear hown
    by_cases hlt : k < n
    · obtain ⟨b, o, rfl, hb, hxs⟩ := HA.out (by intro e; rw [e] at HN; have := HN.out; simp at this; omega)
      obtain ⟨x, hxk⟩ : ∃ x, xs[k]? = some x := ⟨xs[k]'(by rw [HN.out]; exact hlt), List.getElem?_eq_getElem _⟩
      have c0 : wr.cell? ⟨b, o + k, none⟩ = some (.int .i64 x) := (hB.cell (p := ⟨b, o + k, none⟩) hb).trans (hxs k x hxk)
      obtain ⟨x1, x2⟩ := HX.out x (List.mem_of_getElem? hxk)
      have HS := hide (bkN_succ (st := st) hxk)
      obtain ⟨b1, b2⟩ := HBD.out k hk
      have hi : (k : Int) < n := by omega
      have h0 : (0 : Int) ≤ k := by omega
      clear hxs hxk
      obtain ⟨q, hq⟩ : ∃ q, bkN st xs k = q := ⟨_, rfl⟩
      have HQ := hide hq
      rw [hq] at b1 b2 ⊢
      clear hq
      go_wp2_with (at_builtin; refine wpList_append_own _ rfl (.tmp 17) (.tmp 19) 35 rfl w.heap.size 2 i0 (.int .i64 0) 1 8 Try.underlying35 hi0 hz0 hz1 hz2 rfl (by decide) _ k _ rfl (HOWN.out.alloc _) ⟨wr.heap.size, 0, none⟩ 1 1 [.int .i64 (q + x)] rfl rfl (one_cell _) (one_one rfl) ?h1 ?h2 ?h3 ?_)
      case h1 => unfold maxLen; omega
      case h2 => omega
      case h3 => first | omega | (simp; omega) | simp
      intro v' w4 hown4 hg4 _
      obtain ⟨A4, c4, rfl, _, _⟩ := cellsIn_of_own hown4 (by omega)
      have H4 := hide hown4
      have hg34 : wr.grownBy w4 _ := grown_trans (World.grownBy_alloc wr _ _) hg4
      have hB4 := hB.trans (grown_toBelow hg34 (by omega) (fun k hk => (HOWN.out.lt k hk).1))
      clear hown4 hg4 hg34
      go_wp2
      refine ⟨⟨k + 1, by omega, by go_num, by rw [HS.out, HQ.out], ?_, hB4⟩, by simp [intOf]; omega⟩
      rw [HTU.out, List.map_append, HS.out, HQ.out]
      exact H4.out
    · obtain rfl : k = n := by omega
      obtain ⟨Ag, cg, e, _, hI⟩ := intsIn_of_own HOWN.out
      injection e with e1 e2 e3
      subst e1 e3
      have HI := hide hI
      clear hI
      go_wp2
      go_ret
      exact ⟨Ab, cbb, by rw [HTL.out]; rfl, by rw [HTL.out]; exact hcap, HI.out, hB⟩

set_option maxHeartbeats 1000000 in
theorem firstShort1_any (x : Int) (w : World) :
    Calls Try.prog 98 #[.int .i64 x] w fun e w' => e = .returned (.bool (decide (x < 0))) ∧ w = w' := by
  go_enter Try.func98, Try.ntmps98
  go_wp2
  go_ret
  exact ⟨rfl, rfl⟩

/-- The first number below 0; -1 if there is none. -/
def lowS (xs : List Int) : Nat → Int
  | 0 => -1
  | k + 1 => if 0 ≤ lowS xs k then lowS xs k else if xs.getD k 0 < 0 then k else -1
theorem lowS_bk (st : Int) (xs : List Int) : ∀ k, k ≤ xs.length → lowS (bkT st xs xs.length) k = bkS st xs k
  | 0, _ => rfl
  | k + 1, hk => by rw [lowS, bkS, lowS_bk st xs k (by omega), getD_of (bkT_get (by omega))]
theorem lowS_hit {xs : List Int} {k : Nat} {x : Int} (h : lowS xs k = -1) (hx : xs[k]? = some x) (hn : x < 0) : lowS xs (k + 1) = k := by rw [lowS, h, getD_of hx]; simp [hn]
theorem lowS_miss {xs : List Int} {k : Nat} {x : Int} (h : lowS xs k = -1) (hx : xs[k]? = some x) (hn : ¬ x < 0) : lowS xs (k + 1) = -1 := by rw [lowS, h, getD_of hx]; simp [hn]
theorem lowS_stay {xs : List Int} {k : Nat} (h : 0 ≤ lowS xs k) : ∀ m, k ≤ m → lowS xs m = lowS xs k
  | 0, hm => by have : k = 0 := by omega
                subst this; rfl
  | m + 1, hm => by
    by_cases e : k = m + 1
    · subst e; rfl
    · have ih := lowS_stay h m (by omega)
      rw [lowS, ih, if_pos h]

set_option maxRecDepth 100000 in
set_option maxHeartbeats 4000000 in
theorem indexLow_any (A : Option Addr) (xs : List Int) (c : Nat) (w : World) (hn : xs.length ≤ 60) (hA : IntsAt w w.heap.size A xs) :
    Calls Try.prog 66 #[.slice A xs.length c, .func (.func 98) #[] #[]] w fun e w' => e = .returned (.int .i64 (lowS xs xs.length)) ∧ w = w' := by
  have HSH := hide (fun (k : Nat) (x : Int) (h : lowS xs k = -1) (hx : xs[k]? = some x) (hn : x < 0) => lowS_hit h hx hn)
  have HSM := hide (fun (k : Nat) (x : Int) (h : lowS xs k = -1) (hx : xs[k]? = some x) (hn : ¬ x < 0) => lowS_miss h hx hn)
  have HSS := hide (fun (k : Nat) (h : 0 ≤ lowS xs k) => lowS_stay (k := k) h)
  have HA := hide hA
  obtain ⟨n, hN⟩ : ∃ n, xs.length = n := ⟨_, rfl⟩
  have HN := hide hN
  rw [hN] at hn ⊢
  clear hN hA
  go_enter Try.func66, Try.ntmps66
  go_wp2
  go_loop [8] (fun i => ∃ k : Nat, k ≤ n ∧ i = .int .i64 k ∧ Hid (lowS xs k = -1)) (fun i => n - (intOf i).toNat)
  case atStart => exact ⟨0, Nat.zero_le _, rfl, hide rfl⟩
  case round =>
    obtain ⟨k, hk, rfl, hg⟩ := hrel
    by_cases hlt : k < n
    · obtain ⟨b, o, rfl, hb, hxs⟩ := HA.out (by intro e; rw [e] at HN; have := HN.out; simp at this; omega)
      obtain ⟨x, hxk⟩ : ∃ x, xs[k]? = some x := ⟨xs[k]'(by rw [HN.out]; exact hlt), List.getElem?_eq_getElem _⟩
      have hc := hxs k x hxk
      have HX := hide hxk
      have hi : (k : Int) < n := by omega
      have h0 : (0 : Int) ≤ k := by omega
      clear hxs hxk
      cases hneg : decide (x < 0)
      · have HE := hide (HSM.out _ _ hg.out HX.out (by simpa using hneg))
        go_wp2_with (go_at_call 98; refine (firstShort1_any _ _).mono ?_; rintro e w1 ⟨rfl, rfl⟩; simp only [hneg])
        exact ⟨⟨k + 1, by omega, by go_num, HE⟩, by simp [intOf]; omega⟩
      · have HE := hide (HSH.out _ _ hg.out HX.out (by simpa using hneg))
        have HF := hide (HSS.out (k + 1) (by rw [HE.out]; omega) n (by omega))
        go_wp2_with (go_at_call 98; refine (firstShort1_any _ _).mono ?_; rintro e w1 ⟨rfl, rfl⟩; simp only [hneg])
        go_ret
        exact ⟨ret_int (by rw [HF.out, HE.out]), rfl⟩
    · obtain rfl : k = n := by omega
      go_wp2
      go_ret
      exact ⟨ret_int hg.out.symm, rfl⟩

set_option maxHeartbeats 1000000 in
theorem firstShort_any (A : Option Addr) (xs : List Int) (c : Nat) (w : World) (hn : xs.length ≤ 60) (hA : IntsAt w w.heap.size A xs) :
    Calls Try.prog 82 #[.slice A xs.length c] w fun e w' => e = .returned (.int .i64 (lowS xs xs.length)) ∧ w = w' := by
  have HI := hide (indexLow_any A xs c w hn hA)
  clear hA
  go_enter Try.func82, Try.ntmps82
  go_wp2_with (go_at_call 66; refine HI.out.mono ?_; rintro e w1 ⟨rfl, rfl⟩)
  go_ret
  exact ⟨rfl, rfl⟩

set_option maxRecDepth 100000 in
set_option maxHeartbeats 8000000 in
theorem implStockAfter_any (st : Int) (hst : (Lit.int .i64 st).wf = true) (A : Option Addr) (xs : List Int) (c : Nat) (hn : xs.length ≤ maxLen) (w : World) (hA : IntsAt w w.heap.size A xs) :
    Calls Try.prog 44 #[.int .i64 st, .slice A xs.length c] w (IntsBack (saR st xs) (saC st xs) w) := by
  have HCH := hide (bookCheck_any A xs c st w hn hA)
  by_cases h0 : bkC st xs = 0
  · obtain ⟨hs, hx, hn60⟩ := bk_zero h0
    have HST := hide (fun W h => bookStock_any A xs c st W hs hx hn60 (hA.go h))
    have HFI := hide (fun A' c' W h => firstShort_any A' (bkT st xs xs.length) c' W (by rw [bkT_len]; exact hn60) h)
    rw [bkT_len, lowS_bk st xs _ (Nat.le_refl _)] at HFI
    have HTL := hide (bkT_len st xs xs.length)
    rw [h0] at HCH
    by_cases hsh : 0 ≤ bkS st xs xs.length
    · obtain ⟨e1, e2⟩ := sa_short h0 hsh
      rw [e1, e2]
      generalize bkS st xs xs.length = S at *
      have hd : decide (0 ≤ S) = true := by simpa using hsh
      unfold maxLen at hn
      clear h0 hs hx e1 e2 hsh hA hst
      go_enter Try.func44, Try.ntmps44
      go_wp2_with (first | (go_at_call 80; refine HCH.out.mono ?_; rintro e w1 ⟨rfl, hb1⟩) | (go_at_call 81; refine (HST.out _ hb1).mono ?_; rintro e w2 ⟨Q1, k1, rfl, hk1, hI1, hb2⟩; rw [HTL.out]) | (go_at_call 82; refine (HFI.out _ _ _ hI1.at_).mono ?_; rintro e w3 ⟨rfl, rfl⟩))
      go_ret2
      exact ⟨_, _, rfl, IntsIn.empty _ _ _, hb1.trans (hb2.mono hb1.size)⟩
    · obtain ⟨e1, e2⟩ := sa_ok h0 hsh
      rw [e1, e2]
      generalize bkS st xs xs.length = S at *
      have hd : decide (0 ≤ S) = false := by simpa using hsh
      unfold maxLen at hn
      clear h0 hs hx e1 e2 hsh hA hst
      go_enter Try.func44, Try.ntmps44
      go_wp2_with (first | (go_at_call 80; refine HCH.out.mono ?_; rintro e w1 ⟨rfl, hb1⟩) | (go_at_call 81; refine (HST.out _ hb1).mono ?_; rintro e w2 ⟨Q1, k1, rfl, hk1, hI1, hb2⟩; rw [HTL.out]) | (go_at_call 82; refine (HFI.out _ _ _ hI1.at_).mono ?_; rintro e w3 ⟨rfl, rfl⟩))
      go_ret2
      exact ⟨Q1, k1, by rw [HTL.out]; rfl, hI1.wider hb1.size, hb1.trans (hb2.mono hb1.size)⟩
  · obtain ⟨e1, e2⟩ := sa_bad h0
    rw [e1, e2]
    generalize bkC st xs = C at *
    have hC : (C != 0) = true := by simpa using h0
    unfold maxLen at hn
    clear h0 e1 e2 hA hst
    go_enter Try.func44, Try.ntmps44
    go_wp2_with (go_at_call 80; refine HCH.out.mono ?_; rintro e w1 ⟨rfl, hb1⟩)
    go_ret2
    exact ⟨_, _, rfl, IntsIn.empty _ _ _, hb1⟩

set_option maxRecDepth 100000 in
set_option maxHeartbeats 8000000 in
theorem implFirstShort_any (st : Int) (hst : (Lit.int .i64 st).wf = true) (A : Option Addr) (xs : List Int) (c : Nat) (hn : xs.length ≤ maxLen) (w : World) (hA : IntsAt w w.heap.size A xs) :
    Calls Try.prog 46 #[.int .i64 st, .slice A xs.length c] w fun e w' => e = .returned (.tuple #[.int .i64 (fsV st xs), .int .i64 (fsC st xs)]) ∧ Below w.heap.size w w' := by
  have HCH := hide (bookCheck_any A xs c st w hn hA)
  by_cases h0 : bkC st xs = 0
  · obtain ⟨hs, hx, hn60⟩ := bk_zero h0
    have HST := hide (fun W h => bookStock_any A xs c st W hs hx hn60 (hA.go h))
    have HFI := hide (fun A' c' W h => firstShort_any A' (bkT st xs xs.length) c' W (by rw [bkT_len]; exact hn60) h)
    rw [bkT_len, lowS_bk st xs _ (Nat.le_refl _)] at HFI
    have HTL := hide (bkT_len st xs xs.length)
    rw [h0] at HCH
    by_cases hsh : 0 ≤ bkS st xs xs.length
    · obtain ⟨e1, e2⟩ := fs_some h0 hsh
      rw [e1, e2]
      generalize bkS st xs xs.length = S at *
      have hd : decide (S < 0) = false := by simpa using hsh
      unfold maxLen at hn
      clear h0 hs hx e1 e2 hsh hA hst
      go_enter Try.func46, Try.ntmps46
      go_wp2_with (first | (go_at_call 80; refine HCH.out.mono ?_; rintro e w1 ⟨rfl, hb1⟩) | (go_at_call 81; refine (HST.out _ hb1).mono ?_; rintro e w2 ⟨Q1, k1, rfl, hk1, hI1, hb2⟩; rw [HTL.out]) | (go_at_call 82; refine (HFI.out _ _ _ hI1.at_).mono ?_; rintro e w3 ⟨rfl, rfl⟩))
      go_ret2
      exact ⟨rfl, hb1.trans (hb2.mono hb1.size)⟩
    · obtain ⟨e1, e2⟩ := fs_none h0 hsh
      rw [e1, e2]
      generalize bkS st xs xs.length = S at *
      have hd : decide (S < 0) = true := by simp; omega
      unfold maxLen at hn
      clear h0 hs hx e1 e2 hsh hA hst
      go_enter Try.func46, Try.ntmps46
      go_wp2_with (first | (go_at_call 80; refine HCH.out.mono ?_; rintro e w1 ⟨rfl, hb1⟩) | (go_at_call 81; refine (HST.out _ hb1).mono ?_; rintro e w2 ⟨Q1, k1, rfl, hk1, hI1, hb2⟩; rw [HTL.out]) | (go_at_call 82; refine (HFI.out _ _ _ hI1.at_).mono ?_; rintro e w3 ⟨rfl, rfl⟩))
      go_ret2
      exact ⟨rfl, hb1.trans (hb2.mono hb1.size)⟩
  · obtain ⟨e1, e2⟩ := fs_bad h0
    rw [e1, e2]
    generalize bkC st xs = C at *
    have hC : (C != 0) = true := by simpa using h0
    unfold maxLen at hn
    clear h0 e1 e2 hA hst
    go_enter Try.func46, Try.ntmps46
    go_wp2_with (go_at_call 80; refine HCH.out.mono ?_; rintro e w1 ⟨rfl, hb1⟩)
    go_ret2
    exact ⟨rfl, hb1⟩

/-- The least of 0 and the first k numbers. -/
def lowM (xs : List Int) : Nat → Int
  | 0 => 0
  | k + 1 => min (lowM xs k) (xs.getD k 0)
theorem lowM_succ {xs : List Int} {k : Nat} {x : Int} (h : xs[k]? = some x) : lowM xs (k + 1) = min (lowM xs k) x := by rw [lowM, getD_of h]
theorem lowM_bk (xs : List Int) : ∀ k, k ≤ xs.length → -(lowM (bkT 0 xs xs.length) k) = bkM xs k
  | 0, _ => rfl
  | k + 1, hk => by
    have ih := lowM_bk xs k (by omega)
    rw [lowM_succ (bkT_get (by omega)), bkM]; omega

set_option maxRecDepth 100000 in
set_option maxHeartbeats 8000000 in
theorem implLeastStart_any (A : Option Addr) (xs : List Int) (c : Nat) (hn : xs.length ≤ maxLen) (w : World) (hA : IntsAt w w.heap.size A xs) :
    Calls Try.prog 48 #[.slice A xs.length c] w fun e w' => e = .returned (.tuple #[.int .i64 (leV xs), .int .i64 (leC xs)]) ∧ Below w.heap.size w w' := by
  have HCH := hide (bookCheck_any A xs c 0 w hn hA)
  unfold leV leC
  by_cases h0 : bkC 0 xs = 0
  · obtain ⟨hs, hx, hn60⟩ := bk_zero h0
    have HST := hide (fun W h => bookStock_any A xs c 0 W hs hx hn60 (hA.go h))
    have HTL := hide (bkT_len 0 xs xs.length)
    have HMM := hide (lowM_bk xs)
    have HMB := hide (bkM_bd hx)
    have HLS := hide (fun k x h => @lowM_succ (bkT 0 xs xs.length) k x h)
    have HTG := hide (fun k (h : k < xs.length) => bkT_get (st := 0) (xs := xs) h)
    have HNB := hide (bkN_bd (st := 0) hx)
    rw [h0] at HCH ⊢
    rw [if_pos rfl]
    obtain ⟨n, hN⟩ : ∃ n, xs.length = n := ⟨_, rfl⟩
    have HN := hide hN
    rw [hN] at HCH HST HTL HMM HMB HLS HTG HNB hn60 ⊢
    clear h0 hs hx hA hn hN
    go_enter Try.func48, Try.ntmps48
    go_wp2_with (first | (go_at_call 80; refine HCH.out.mono ?_; rintro e w1 ⟨rfl, hb1⟩) | (go_at_call 81; refine (HST.out _ hb1).mono ?_; rintro e w2 ⟨Q1, k1, rfl, hk1, hI1, hb2⟩; rw [HTL.out]))
    go_loop [6, 18] (fun v i => ∃ k : Nat, k ≤ n ∧ i = .int .i64 k ∧ v = .int .i64 (lowM (bkT 0 xs n) k)) (fun _ i => n - (intOf i).toNat)
    case atStart => exact ⟨0, Nat.zero_le _, rfl, rfl⟩
    case round =>
      obtain ⟨k, hk, rfl, rfl⟩ := hrel
      by_cases hlt : k < n
      · obtain ⟨b, o, rfl, hb, hxs⟩ := hI1.at_ (by intro e; rw [e] at HTL; have := HTL.out; simp at this; omega)
        have hc := hxs k _ (HTG.out k hlt)
        have HM := hide (HLS.out k _ (HTG.out k hlt))
        have hi : (k : Int) < n := by omega
        have h0 : (0 : Int) ≤ k := by omega
        clear hxs
        generalize bkN 0 xs (k + 1) = q at *
        generalize lowM (bkT 0 xs n) k = m at *
        go_wp2
        exact ⟨⟨k + 1, by omega, by go_num, by rw [HM.out]⟩, by simp [intOf]; omega⟩
      · obtain rfl : k = n := by omega
        have HE := hide (HMM.out k (Nat.le_refl _))
        have hmb := HMB.out k (Nat.le_refl _)
        rw [← HE.out] at hmb
        obtain ⟨hm1, hm2⟩ := hmb
        generalize lowM (bkT 0 xs k) k = m at *
        go_wp2
        go_ret2
        exact ⟨ret_ii HE.out rfl, hb1.trans (hb2.mono hb1.size)⟩
  · rw [if_neg h0]
    generalize bkC 0 xs = C at *
    have hC : (C != 0) = true := by simpa using h0
    unfold maxLen at hn
    clear h0 hA
    go_enter Try.func48, Try.ntmps48
    go_wp2_with (go_at_call 80; refine HCH.out.mono ?_; rintro e w1 ⟨rfl, hb1⟩)
    go_ret2
    exact ⟨rfl, hb1⟩
end Go.Proofs.Ytjgcadohjccfaaa
