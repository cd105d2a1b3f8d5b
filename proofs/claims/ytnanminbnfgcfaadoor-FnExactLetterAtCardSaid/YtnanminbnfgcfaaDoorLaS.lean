/- LetterAt: the model's. -/
import Derived.Test.YtnanminbnfgcfaaDoorLaP
namespace Go.Proofs.YtnanminbnfgcfaaDoor
open Go Go.RowKit

theorem hit_at {ps ws : List Int} {x p y : Int} {k : Nat} (hp : ps[k]? = some p) (hy : ws[k]? = some y) : hitB ps ws x k = inB x p (p + y - 1) := by
  unfold hitB; simp [List.getD, hp, hy]

set_option maxRecDepth 100000 in
set_option maxHeartbeats 8000000 in
theorem specLetterAt_any (F : Fc) (hF : F.ok) (A : Option Addr) (c : Nat) (s : ByteArray) (hs : s.size ≤ maxLen) (x : Int) (w : World) (hA : PairsAt w w.heap.size A F.ps) :
    Calls Tryd.prog 8 #[.agg (fc F (.slice A F.ps.length c)).toArray, .string s, .int .i64 x] w fun e w' => e = .returned (.tuple #[.int .i64 (laV F s.data.toList x), .int .i64 (laC F s.data.toList x)]) ∧ Below w.heap.size w w' := by
  have hr := rangeAt_new w (fc F (.slice A F.ps.length c)) 32
  have hb : Below w.heap.size w (w.alloc (.cells (fc F (.slice A F.ps.length c)).toArray 32)) := (Below.refl _ _).alloc (Nat.le_refl _) _
  have hs0 : w.heap.size < (w.alloc (.cells (fc F (.slice A F.ps.length c)).toArray 32)).heap.size := by simp
  have BA := (hA.below hb).mono hb.size
  have HC := hide (l01Asked_any F hF _ A c s true _ hs hr BA)
  cases hq : (vface F && vtext s.data.toList)
  · have h1 : askC F s.data.toList true = 1 := ask_no (by intro h; rw [h.1, h.2] at hq; cases hq)
    obtain ⟨e1, e2⟩ := la_no (x := x) h1
    rw [e1, e2]
    rw [h1] at HC
    clear hA BA hr hq h1 e1 e2
    go_enter Tryd.func8, Tryd.ntmps8
    go_wp2_with fail
    refine HC.out.mono ?_
    rintro e w1 ⟨rfl, hb1⟩
    go_wp2
    go_ret2
    exact ⟨rfl, hb.trans (hb1.mono hb.size)⟩
  · obtain ⟨hv, ht⟩ : vface F = true ∧ vtext s.data.toList = true := by simpa using hq
    have h0 : askC F s.data.toList true = 0 := by rw [ask_ok hv ht]; rfl
    rw [h0] at HC
    have hwl := words_len ht
    have hs60 : s.size ≤ 1048576 := by have := (vtext_true.1 ht).1; simp at this; omega
    have HW := hide (fun w => l01WordsC_any s w hs60)
    have HBL := hide (show (bas (wordsL s.data.toList)).length = (wordsL s.data.toList).length from List.length_map _)
    have HLI := hide (fun A2 c2 W (hB : Below (w.alloc (.cells (fc F (.slice A F.ps.length c)).toArray 32)).heap.size (w.alloc (.cells (fc F (.slice A F.ps.length c)).toArray 32)) W) hS => l01Line_any F hF w.heap.size A c (wordsL s.data.toList) A2 c2 W hv (fun x hx => words_mem ht hx) hwl (rangeAt_below hr hB hs0) (Nat.lt_of_lt_of_le hs0 hB.size) ((BA.below hB).mono hB.size) hS)
    have HP := hide (fun A2 c2 W (hB : Below (w.alloc (.cells (fc F (.slice A F.ps.length c)).toArray 32)).heap.size (w.alloc (.cells (fc F (.slice A F.ps.length c)).toArray 32)) W) hS => l01Places_any F hF w.heap.size A c (wordsL s.data.toList) A2 c2 W hv (fun x hx => words_mem ht hx) hwl (rangeAt_below hr hB hs0) (Nat.lt_of_lt_of_le hs0 hB.size) ((BA.below hB).mono hB.size) hS)
    unfold PlBack at HP
    obtain ⟨q1, q2⟩ := lineL_bd hF hv (fun x hx => words_mem ht hx) hwl
    have HIN := hide (fun W => l00In_any x 0 (lineL F (wordsL s.data.toList) - 1) W)
    have HPB := hide (plL_bd hF hv ht)
    have HWB := hide (lw_bd hF hv ht)
    have hQ : inB x 0 (lineL F (wordsL s.data.toList) - 1) = laIn F s.data.toList x := rfl
    rw [hQ] at HIN
    have HWD := hide (wdL_lett F s.data.toList)
    have HPN := hide (plL_lett F s.data.toList)
    have hn60 : (lettL s.data.toList).length ≤ 60 := Nat.le_trans (lettL_len _) (vtext_true.1 ht).1
    have HSO := hide (fun k => hit_some (ps := plL F (wordsL s.data.toList)) (ws := wdL F (wordsL s.data.toList)) (x := x) (k := k))
    have HNO := hide (hit_none (ps := plL F (wordsL s.data.toList)) (ws := wdL F (wordsL s.data.toList)) (x := x))
    have HO := hide (show laO F s.data.toList x = hitL (plL F (wordsL s.data.toList)) (wdL F (wordsL s.data.toList)) x from rfl)
    cases hin : laIn F s.data.toList x
    · obtain ⟨e1, e2⟩ := la_out h0 hin
      rw [e1, e2]
      rw [hin] at HIN
      generalize lineL F (wordsL s.data.toList) = LN at *
      clear hA BA hv ht h0 hs60 hr hq HP HPB HWB HSO HNO HO hQ e1 e2 HWD HPN
      go_enter Tryd.func8, Tryd.ntmps8
      go_wp2_with fail
      refine HC.out.mono ?_
      rintro e w1 ⟨rfl, hb1⟩
      go_wp2_with fail
      refine (HW.out w1).mono ?_
      rintro e w2 ⟨A2, c2, rfl, hc2, hP2, hb2⟩
      rw [HBL.out]
      have hB2 := hb1.trans (hb2.mono hb1.size)
      have hB3 := hb.trans (hB2.mono hb.size)
      have hS2 := hide hP2.at_
      clear hb1 hb2 hP2
      go_wp2_with (first | (go_at_call 27; refine (HLI.out _ _ _ hB2 hS2.out).mono ?_; rintro e w3 ⟨rfl, hb3⟩) | (go_at_call 26; refine (HIN.out _).mono ?_; rintro e w4 ⟨rfl, rfl⟩))
      go_ret2
      exact ⟨rfl, hB3.trans (hb3.mono hB3.size)⟩
    · obtain ⟨e1, e2⟩ := la_in h0 hin
      rw [e1, e2, HO.out]
      rw [hin] at HIN
      generalize lineL F (wordsL s.data.toList) = LN at *
      generalize plL F (wordsL s.data.toList) = PL at *
      generalize wdL F (wordsL s.data.toList) = WD at *
      clear hA BA hv ht h0 hs60 hr hq hQ e1 e2 HO
      go_enter Tryd.func8, Tryd.ntmps8
      go_wp2_with fail
      refine HC.out.mono ?_
      rintro e w1 ⟨rfl, hb1⟩
      go_wp2_with fail
      refine (HW.out w1).mono ?_
      rintro e w2 ⟨A2, c2, rfl, hc2, hP2, hb2⟩
      rw [HBL.out]
      have hB2 := hb1.trans (hb2.mono hb1.size)
      have hB3 := hb.trans (hB2.mono hb.size)
      have hS2 := hide hP2.at_
      clear hb1 hb2 hP2
      go_wp2_with (first | (go_at_call 27; refine (HLI.out _ _ _ hB2 hS2.out).mono ?_; rintro e w3 ⟨rfl, hb3⟩) | (go_at_call 26; refine (HIN.out _).mono ?_; rintro e w4 ⟨rfl, rfl⟩))
      have hB4 := hB2.trans (hb3.mono hB2.size)
      refine (HW.out _).mono ?_
      rintro e w5 ⟨A5, c5, rfl, hc5, hP5, hb5⟩
      rw [HBL.out]
      have hB5 := hB4.trans (hb5.mono hB4.size)
      have hS5 := hide hP5.at_
      clear hb3 hb5 hP5 hS2
      go_wp2_with fail
      refine (HP.out A5 c5 _ hB5 hS5.out).mono ?_
      rintro e w6 ⟨A6, c6, A7, c7, rfl, hc6, hI6, hI7, hb6⟩
      have hB6 := hB5.trans (hb6.mono hB5.size)
      have hB0 := hb.trans (hB6.mono hb.size)
      have HI6 := hide hI6.at_
      have HI7 := hide hI7.at_
      clear hI6 hI7 hb6
      obtain ⟨n, hn⟩ : ∃ n, PL.length = n := ⟨_, rfl⟩
      have hwn : WD.length = n := by rw [HWD.out, List.length_map, ← HPN.out, hn]
      have hnn : n ≤ 60 := by rw [← hn, HPN.out]; exact hn60
      rw [hn, hwn]
      clear hn60
      go_wp2
      go_loopw [11] (fun i wr => ∃ k : Nat, k ≤ n ∧ i = .int .i64 k ∧ (∀ j, j < k → hitB PL WD x j = false) ∧ Below w6.heap.size w6 wr)
        (fun i _ => n - (intOf i).toNat)
      case atStart => exact ⟨0, Nat.zero_le _, rfl, fun j hj => by omega, Below.refl _ _⟩
      case round =>
        obtain ⟨k, hk, rfl, hno, hB⟩ := hrel
        have HN := hide hno
        clear hno
        by_cases hlt : k < n
        · obtain ⟨p, hp⟩ : ∃ p, PL[k]? = some p := ⟨PL[k]'(by omega), List.getElem?_eq_getElem _⟩
          obtain ⟨y, hy⟩ : ∃ y, WD[k]? = some y := ⟨WD[k]'(by omega), List.getElem?_eq_getElem _⟩
          obtain ⟨b6, o6, rfl, hb6, hx6⟩ := HI6.out (by intro e; rw [e] at hn; simp at hn; omega)
          obtain ⟨b7, o7, rfl, hb7, hx7⟩ := HI7.out (by intro e; rw [e] at hwn; simp at hwn; omega)
          have c6 := Over.get ((hB.cell (p := ⟨b6, o6 + k, none⟩) hb6).trans (hx6 k p hp))
          have c7 := Over.get ((hB.cell (p := ⟨b7, o7 + k, none⟩) hb7).trans (hx7 k y hy))
          obtain ⟨p1, p2⟩ := HPB.out p (List.mem_of_getElem? hp)
          have hym := List.mem_of_getElem? hy
          rw [HWD.out] at hym
          obtain ⟨b, hbm, hby⟩ := List.mem_map.1 hym
          obtain ⟨y1, y2⟩ := HWB.out b hbm
          rw [hby] at y1 y2
          have HH := hide (hit_at (x := x) hp hy)
          have HL := hide (fun W => l00In_any x p (p + y - 1) W)
          have hi : (k : Int) < n := by omega
          have hk0 : (0 : Int) ≤ k := by omega
          clear hx6 hx7 hp hy hym hbm hby
          cases hh : inB x p (p + y - 1)
          · rw [hh] at HL HH
            clear hh
            go_wp2
            refine wp_region_over (by kernel_rfl) (by kernel_rfl) ?_
            repeat (go_big_quiet_step ((go_at_call 26; exact over_same (HL.out _))))
            refine wpQuiet_nil ?_
            intro w9 hb9
            go_wp2
            refine ⟨⟨k + 1, by omega, by go_num, fun j hj => ?_, hB.trans (hb9.mono hB.size)⟩, by simp [intOf]; omega⟩
            by_cases e : j = k
            · subst e; exact HH.out
            · exact HN.out j (by omega)
          · rw [hh] at HL HH
            clear hh
            have HS := hide (HSO.out k (by omega) HH.out HN.out)
            go_wp2
            refine wp_region_over (by kernel_rfl) (by kernel_rfl) ?_
            repeat (go_big_quiet_step ((go_at_call 26; exact over_same (HL.out _))))
            refine wpQuiet_nil ?_
            intro w9 hb9
            go_wp2
            go_ret2
            have hBB := hB.trans (hb9.mono hB.size)
            exact ⟨by rw [HS.out]; rfl, hB0.trans (hBB.mono hB0.size)⟩
        · obtain rfl : k = n := by omega
          have HS := hide (HNO.out (fun j hj => HN.out j (by omega)))
          go_wp2
          go_ret2
          exact ⟨by rw [HS.out]; rfl, hB0.trans (hB.mono hB0.size)⟩
end Go.Proofs.YtnanminbnfgcfaaDoor
